/- For every input, IntegerDivided returns true; the listed tables hold what the program's text lays. -/
import Derived.Test.YtjhnfejlkljkjaaDoorIntOps
namespace Go.Proofs.YtjhnfejlkljkjaaDoor
open Go.RowKit Go.ChangeShapes Go.WideShapes Go.ChangeAt

theorem cmpZ_lt {x y : Int} (h : x < y) : In.cmpZ x y = -1 := if_pos h
theorem cmpZ_gt {x y : Int} (h : y < x) : In.cmpZ x y = 1 := by unfold In.cmpZ; rw [if_neg (by omega), if_pos h]
theorem cmpZ_self (x : Int) : In.cmpZ x x = 0 := by unfold In.cmpZ; rw [if_neg (by omega), if_neg (by omega)]
theorem cmpZ_ge {x y : Int} (h : y ≤ x) : 0 ≤ In.cmpZ x y := by unfold In.cmpZ; split <;> (try split) <;> omega
theorem cmpZ_up {x y : Int} (h : x ≤ y) : In.cmpZ x y ≤ 0 := by unfold In.cmpZ; split <;> (try split) <;> omega
set_option maxRecDepth 100000 in
set_option maxHeartbeats 4000000 in
theorem integerDivided_law (a b : ByteArray) (w : World) (T : TabI w) (ha : a.size ≤ maxLen) (hb : b.size ≤ maxLen) :
    Calls Tryd.prog 6 #[.string a, .string b] w fun r w' => r = .returned (.bool true) ∧ Below w.heap.size w w' := by
  have HT := Lib.hid T
  have BB := Lib.hid (Below.refl w.heap.size w)
  have bx := madeZ_lt a 90
  have b_y := madeZ_lt b 60
  have M1 := Lib.hid (fun W => Made_any a 90 W (by decide) ha)
  have M2 := Lib.hid (fun W => Made_any b 60 W (by decide) hb)
  have HS := Lib.hid sane_any
  generalize madeZ a 90 = x at *
  generalize madeZ b 60 = y at *
  have fx := In.fit_of bx (by decide)
  have fy := In.fit_of b_y (by decide)
  have hy0 := zero_eq y
  have hz0 := zero_is
  by_cases h0 : y = 0
  · subst h0
    rw [decide_eq_true rfl] at hy0
    have D1 := Lib.hid (Div_z fx)
    clear bx b_y fx fy T hz0
    generalize In.txt x = tx at *
    generalize In.txt 0 = t0 at *
    go_enter Tryd.func6, Tryd.ntmps6
    go_wp2_with fail
    with_reducible refine Calls.mono (HS.out _ HT.out) ?_
    rintro e w1 ⟨rfl, hb⟩
    replace HT := Lib.hid (HT.out.next hb)
    replace BB := Lib.hid (Below.andThen BB.out hb)
    clear hb
    go_wp2_with fail
    with_reducible refine Calls.mono (M1.out _) ?_
    rintro e m1 ⟨rfl, hb⟩
    replace HT := Lib.hid (HT.out.next hb)
    replace BB := Lib.hid (Below.andThen BB.out hb)
    clear hb
    go_wp2_with fail
    with_reducible refine Calls.mono (M2.out _) ?_
    rintro e m2 ⟨rfl, hb⟩
    replace HT := Lib.hid (HT.out.next hb)
    replace BB := Lib.hid (Below.andThen BB.out hb)
    clear hb
    go_wp2_with fail
    with_reducible refine Calls.mono (D1.out _ HT.out) ?_
    rintro e w2 ⟨rfl, hb⟩
    replace HT := Lib.hid (HT.out.next hb)
    replace BB := Lib.hid (Below.andThen BB.out hb)
    clear hb
    go_wp2_with fail
    go_ret
    exact ⟨rfl, BB.out⟩
  · rw [decide_eq_false h0] at hy0
    have D1 := Lib.hid (Div_t fx fy h0)
    have bq := In.abs_div (b := y) bx
    have fq := In.fit_of bq (by decide)
    have br := In.abs_mod (a := x) h0 b_y
    have fr := In.fit_of br (by decide)
    have fp := In.fit_of (In.abs_mul bq b_y) (by decide)
    have P1 := Lib.hid (Mul_t fq fy fp)
    have A1 := Lib.hid (Add_t fp fr (by rw [Int.ediv_mul_add_emod]; exact fx))
    rw [Int.ediv_mul_add_emod] at A1
    have P2 := Lib.hid (Mul_1 fy)
    have fm := In.fit_of (In.abs_mul bx b_y) (by decide)
    have P3 := Lib.hid (Mul_t fx fy fm)
    have D2 := Lib.hid (Div_t fm fy h0)
    rw [Int.mul_ediv_cancel _ h0, Int.mul_emod_left] at D2
    have C1 := Lib.hid (Cmp_0 fy)
    have C2 := Lib.hid (Cmp_0 fr)
    have hr1 := Int.emod_nonneg x h0
    have hc2 := cmpZ_ge hr1
    have V1 := Lib.hid (Valid_t (x % y))
    rw [decide_eq_true fr] at V1
    generalize In.cmpZ (x % y) 0 = c2 at *
    rcases Int.lt_or_gt_of_ne h0 with hlt | hgt
    · rw [cmpZ_lt hlt] at C1
      have S1 := Lib.hid (Sub_0 fy)
      have fn : In.Fit (-y) := by show Int.natAbs (-y) < _; rw [Int.natAbs_neg]; exact fy
      have C3 := Lib.hid (Cmp_t fr fn)
      rw [cmpZ_lt (by have := Int.emod_lt x h0; omega)] at C3
      clear bx b_y fx fy T h0 bq fq br fr fp fm hr1 hlt fn
      generalize In.txt 0 = t0 at *
      generalize In.txt (x / y * y) = s1 at *
      generalize In.txt (x / y) = s2 at *
      generalize In.txt (x % y) = s3 at *
      generalize In.txt (x * y) = s4 at *
      generalize In.txt (-y) = s5 at *
      generalize In.txt x = tx at *
      generalize In.txt y = ty at *
      go_enter Tryd.func6, Tryd.ntmps6
      go_wp2_with fail
      with_reducible refine Calls.mono (HS.out _ HT.out) ?_
      rintro e w1 ⟨rfl, hb⟩
      replace HT := Lib.hid (HT.out.next hb)
      replace BB := Lib.hid (Below.andThen BB.out hb)
      clear hb
      go_wp2_with fail
      with_reducible refine Calls.mono (M1.out _) ?_
      rintro e m1 ⟨rfl, hb⟩
      replace HT := Lib.hid (HT.out.next hb)
      replace BB := Lib.hid (Below.andThen BB.out hb)
      clear hb
      go_wp2_with fail
      with_reducible refine Calls.mono (M2.out _) ?_
      rintro e m2 ⟨rfl, hb⟩
      replace HT := Lib.hid (HT.out.next hb)
      replace BB := Lib.hid (Below.andThen BB.out hb)
      clear hb
      go_wp2_with fail
      with_reducible refine Calls.mono (D1.out _ HT.out) ?_
      rintro e w_D1 ⟨rfl, hb⟩
      replace HT := Lib.hid (HT.out.next hb)
      replace BB := Lib.hid (Below.andThen BB.out hb)
      clear hb
      go_wp2_with fail
      with_reducible refine Calls.mono (P1.out _ HT.out) ?_
      rintro e w_P1 ⟨rfl, hb⟩
      replace HT := Lib.hid (HT.out.next hb)
      replace BB := Lib.hid (Below.andThen BB.out hb)
      clear hb
      go_wp2_with fail
      with_reducible refine Calls.mono (A1.out _ HT.out) ?_
      rintro e w_A1 ⟨rfl, hb⟩
      replace HT := Lib.hid (HT.out.next hb)
      replace BB := Lib.hid (Below.andThen BB.out hb)
      clear hb
      go_wp2_with fail
      with_reducible refine Calls.mono (P2.out _ HT.out) ?_
      rintro e w_P2 ⟨rfl, hb⟩
      replace HT := Lib.hid (HT.out.next hb)
      replace BB := Lib.hid (Below.andThen BB.out hb)
      clear hb
      go_wp2_with fail
      with_reducible refine Calls.mono (C1.out _) ?_
      rintro e w_c1 ⟨rfl, hb⟩
      replace HT := Lib.hid (HT.out.next hb)
      replace BB := Lib.hid (Below.andThen BB.out hb)
      clear hb
      go_wp2_with fail
      with_reducible refine Calls.mono (S1.out _ HT.out) ?_
      rintro e w_S1 ⟨rfl, hb⟩
      replace HT := Lib.hid (HT.out.next hb)
      replace BB := Lib.hid (Below.andThen BB.out hb)
      clear hb
      go_wp2_with fail
      with_reducible refine Calls.mono (P3.out _ HT.out) ?_
      rintro e w_P3 ⟨rfl, hb⟩
      replace HT := Lib.hid (HT.out.next hb)
      replace BB := Lib.hid (Below.andThen BB.out hb)
      clear hb
      go_wp2_with fail
      with_reducible refine Calls.mono (D2.out _ HT.out) ?_
      rintro e w_D2 ⟨rfl, hb⟩
      replace HT := Lib.hid (HT.out.next hb)
      replace BB := Lib.hid (Below.andThen BB.out hb)
      clear hb
      go_wp2_with fail
      with_reducible refine Calls.mono (C2.out _) ?_
      rintro e w_c2 ⟨rfl, hb⟩
      replace HT := Lib.hid (HT.out.next hb)
      replace BB := Lib.hid (Below.andThen BB.out hb)
      clear hb
      go_wp2_with fail
      with_reducible refine Calls.mono (C3.out _) ?_
      rintro e w_c3 ⟨rfl, hb⟩
      replace HT := Lib.hid (HT.out.next hb)
      replace BB := Lib.hid (Below.andThen BB.out hb)
      clear hb
      go_wp2_with fail
      with_reducible refine Calls.mono (V1.out _) ?_
      rintro e w' ⟨rfl, rfl⟩
      go_wp2_with fail
      go_ret
      exact ⟨rfl, BB.out⟩
    · rw [cmpZ_gt hgt] at C1
      have C3 := Lib.hid (Cmp_t fr fy)
      rw [cmpZ_lt (by have := Int.emod_lt x h0; omega)] at C3
      clear bx b_y fx fy T h0 bq fq br fr fp fm hr1 hgt
      generalize In.txt 0 = t0 at *
      generalize In.txt (x / y * y) = s1 at *
      generalize In.txt (x / y) = s2 at *
      generalize In.txt (x % y) = s3 at *
      generalize In.txt (x * y) = s4 at *
      generalize In.txt x = tx at *
      generalize In.txt y = ty at *
      go_enter Tryd.func6, Tryd.ntmps6
      go_wp2_with fail
      with_reducible refine Calls.mono (HS.out _ HT.out) ?_
      rintro e w1 ⟨rfl, hb⟩
      replace HT := Lib.hid (HT.out.next hb)
      replace BB := Lib.hid (Below.andThen BB.out hb)
      clear hb
      go_wp2_with fail
      with_reducible refine Calls.mono (M1.out _) ?_
      rintro e m1 ⟨rfl, hb⟩
      replace HT := Lib.hid (HT.out.next hb)
      replace BB := Lib.hid (Below.andThen BB.out hb)
      clear hb
      go_wp2_with fail
      with_reducible refine Calls.mono (M2.out _) ?_
      rintro e m2 ⟨rfl, hb⟩
      replace HT := Lib.hid (HT.out.next hb)
      replace BB := Lib.hid (Below.andThen BB.out hb)
      clear hb
      go_wp2_with fail
      with_reducible refine Calls.mono (D1.out _ HT.out) ?_
      rintro e w_D1 ⟨rfl, hb⟩
      replace HT := Lib.hid (HT.out.next hb)
      replace BB := Lib.hid (Below.andThen BB.out hb)
      clear hb
      go_wp2_with fail
      with_reducible refine Calls.mono (P1.out _ HT.out) ?_
      rintro e w_P1 ⟨rfl, hb⟩
      replace HT := Lib.hid (HT.out.next hb)
      replace BB := Lib.hid (Below.andThen BB.out hb)
      clear hb
      go_wp2_with fail
      with_reducible refine Calls.mono (A1.out _ HT.out) ?_
      rintro e w_A1 ⟨rfl, hb⟩
      replace HT := Lib.hid (HT.out.next hb)
      replace BB := Lib.hid (Below.andThen BB.out hb)
      clear hb
      go_wp2_with fail
      with_reducible refine Calls.mono (P2.out _ HT.out) ?_
      rintro e w_P2 ⟨rfl, hb⟩
      replace HT := Lib.hid (HT.out.next hb)
      replace BB := Lib.hid (Below.andThen BB.out hb)
      clear hb
      go_wp2_with fail
      with_reducible refine Calls.mono (C1.out _) ?_
      rintro e w_c1 ⟨rfl, hb⟩
      replace HT := Lib.hid (HT.out.next hb)
      replace BB := Lib.hid (Below.andThen BB.out hb)
      clear hb
      go_wp2_with fail
      with_reducible refine Calls.mono (P3.out _ HT.out) ?_
      rintro e w_P3 ⟨rfl, hb⟩
      replace HT := Lib.hid (HT.out.next hb)
      replace BB := Lib.hid (Below.andThen BB.out hb)
      clear hb
      go_wp2_with fail
      with_reducible refine Calls.mono (D2.out _ HT.out) ?_
      rintro e w_D2 ⟨rfl, hb⟩
      replace HT := Lib.hid (HT.out.next hb)
      replace BB := Lib.hid (Below.andThen BB.out hb)
      clear hb
      go_wp2_with fail
      with_reducible refine Calls.mono (C2.out _) ?_
      rintro e w_c2 ⟨rfl, hb⟩
      replace HT := Lib.hid (HT.out.next hb)
      replace BB := Lib.hid (Below.andThen BB.out hb)
      clear hb
      go_wp2_with fail
      with_reducible refine Calls.mono (C3.out _) ?_
      rintro e w_c3 ⟨rfl, hb⟩
      replace HT := Lib.hid (HT.out.next hb)
      replace BB := Lib.hid (Below.andThen BB.out hb)
      clear hb
      go_wp2_with fail
      with_reducible refine Calls.mono (V1.out _) ?_
      rintro e w' ⟨rfl, rfl⟩
      go_wp2_with fail
      go_ret
      exact ⟨rfl, BB.out⟩
namespace integerDivided
set_option maxRecDepth 100000 in
theorem contract (H : Type) (enc : TypeId × Value → H) (W : World) (base : Nat) (args : Array Value) (ds gs : List (DataW H)) (before : List MemPlace)
    (hval : ∀ (j : Nat) t v, Tryd.f6.params[j]? = some t → args[j]? = some v → Value.okWide Tryd.prog W .any base t v)
    (hW : DataW.Whole enc Tryd.prog Tryd.f6.params.toList Rows.integerDividedSpec.vars false W args.toList ds gs before) (hL : laidMetH Tryd.prog Rows.integerDividedRow.laid W) :
    Calls Tryd.prog 6 args W fun e W' => ∃ v, e = .returned v ∧ Rows.integerDividedSpec.post enc Tryd.prog Tryd.f6 false true false false W args v W' := by
  have hW' := hW
  obtain ⟨p, q, hA0, hV, rfl, hfz, hnd⟩ := hW
  have hA : DataW.TrodAll enc Tryd.prog W 0 (fun _ => true) true Tryd.f6.params.toList args.toList ds p := hA0
  rw [Tryd.params6] at hA hval
  obtain ⟨v0, vs0, d0, ds0, p0, q0, hargs, rfl, rfl, h0, r0⟩ := trodAll_cons hA
  obtain ⟨v1, vs1, d1, ds1, p1, q1, rfl, rfl, rfl, h1, r1⟩ := trodAll_cons r0
  obtain ⟨rfl, rfl, rfl⟩ := trodAll_nil r1
  obtain rfl : args = #[v0, v1] := by cases args; simp_all
  obtain ⟨a0, rfl, rfl, rfl, k0⟩ := Go.ChangeMaps.open_string Tryd.underlying9 (hval 0 _ _ rfl rfl) h0
  obtain ⟨a1, rfl, rfl, rfl, k1⟩ := Go.ChangeMaps.open_string Tryd.underlying9 (hval 1 _ _ rfl rfl) h1
  refine (integerDivided_law a0 a1 W (tabI hL) k0 k1).mono fun e W' ⟨he, hb⟩ => ?_
  subst he
  obtain ⟨rfl, _⟩ := trodVars_none hV
  exact ⟨_, rfl, law_post laidOut (by kernel_rfl) rfl (by kernel_rfl) Tryd.underlying4 hW' rfl hb⟩

noncomputable def laidWorld (os : Os) : World := World.laidAll Tryd.prog os Rows.integerDividedRow.laid
def args0 : Array Value := #[.string ⟨#[]⟩, .string ⟨#[]⟩]
theorem laid_met (os : Os) : laidMet Tryd.prog Rows.integerDividedRow.laid ((laidWorld os).forCall (fun _ _ => 0) ⟨#[], args0, []⟩).memory :=
  laidMet_laidAll _ (by kernel_rfl) (by kernel_rfl)
theorem reads (os : Os) {H : Type} (enc : TypeId × Value → H) : ∃ places, DataW.whole enc Tryd.prog ((laidWorld os).forCall (fun _ _ => 0) ⟨#[], args0, []⟩).memory Tryd.f6.params.toList Rows.integerDividedSpec.vars false args0.toList 8 = some ([.lit (.string []), .lit (.string [])], [], places) :=
  ⟨[], by kernel_rfl⟩

set_option maxRecDepth 100000 in
theorem lifted (os : Os) (started : os.Started) (H : Type) (enc : TypeId × Value → H) (F : Stop.Interp) :
    ReturnsInHanded {} Tryd.checked os 6 .any ((OpenSpec.ofChange Rows.integerDividedSpec).preRow enc Tryd.prog Tryd.f6 Rows.integerDividedRow.domain false Rows.integerDividedRow.laid) (((OpenSpec.ofChange Rows.integerDividedSpec).at F).post enc Tryd.prog Tryd.f6 false true false false) := by
  obtain ⟨places, hx⟩ := reads os enc
  refine returnsInHanded_of_row (C := Tryd.checked) (s := OpenSpec.ofChange Rows.integerDividedSpec) own started (by kernel_rfl) Tryd.func6
    (witness_row_at (enc := enc) (C := Tryd.checked) false (laidWorld os) args0 (World.laidAll_os _ _ _) (by kernel_rfl) (by kernel_rfl) (by kernel_rfl)
      (OpenSpec.preRow_of_cond 8 hx (by kernel_rfl) (fun k hk => by cases hk) (by kernel_rfl) (laid_met os))) ?_
  intro W base args ds gs before hval hW _ _ _ hL _ _
  exact contract H enc W base args ds gs before hval hW hL

theorem said : Rows.IntegerDividedSaid :=
  OpenClaim.holds_of_cond 6 Tryd.f6 rfl rfl rfl rfl rfl rfl rfl ⟨rfl, rfl, rfl, rfl, rfl⟩ rfl rfl rfl rfl rfl (by kernel_rfl) Tryd.func6 (by kernel_rfl)
    (of_decide_eq_true (by kernel_rfl)) (by unfold Func.isWrapper; first | (rw [if_pos (by decide +kernel)]; kernel_rfl) | (rw [if_neg (by decide +kernel)]; exact ⟨rfl, rfl⟩))
    (fun os started H enc _ F => by rw [OpenClaim.pre_eq_preRow]; exact lifted os started H enc F)

theorem plain (f : FuncId) (fn : Func) (hf : Tryd.pinned.checked.prog.funcNamed "newswire/newswirelaw03.IntegerDivided" = some f) (hfn : Tryd.pinned.checked.prog.funcs[f]? = some fn) :
    true = Tryd.pinned.checked.prog.looks [] ∧ ∀ (j : Nat) t, fn.params[j]? = some t → Tryd.pinned.checked.prog.wantsStandIn t = false := by
  obtain rfl : f = 6 := Option.some.inj ((show Tryd.prog.funcNamed "newswire/newswirelaw03.IntegerDivided" = some 6 by kernel_rfl).symm.trans hf) |>.symm
  obtain rfl : fn = Tryd.f6 := (Option.some.inj (Tryd.func6.symm.trans hfn)).symm
  refine ⟨by kernel_rfl, fun j t ht => ?_⟩
  have all : (Tryd.f6.params.toList.all fun t => Tryd.prog.wantsStandIn t == false) = true := by kernel_rfl
  have := List.all_eq_true.1 all t (by rw [← Array.mem_def]; exact Array.mem_of_getElem? ht)
  exact (show Tryd.prog.wantsStandIn t = false by simpa using this)

/-- The statement. -/
theorem card : Rows.IntegerDividedCardSaid :=
  Claim7.holds_tied_plain_at .later [] _ _ _ _ said (fun _ h => by cases h) (by kernel_rfl) (fun _ h => by cases h) integerDivided_row_tie rfl ⟨rfl, rfl⟩ (by kernel_rfl) rfl plain (by kernel_rfl)
end integerDivided
end Go.Proofs.YtjhnfejlkljkjaaDoor
