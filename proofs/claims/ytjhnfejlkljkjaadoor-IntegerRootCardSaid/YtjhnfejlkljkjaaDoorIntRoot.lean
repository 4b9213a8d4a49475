/- For every input, IntegerRoot returns true; the listed tables hold what the program's text lays. -/
import Derived.Test.YtjhnfejlkljkjaaDoorIntOps
namespace Go.Proofs.YtjhnfejlkljkjaaDoor
open Go.RowKit Go.ChangeShapes Go.WideShapes Go.ChangeAt

theorem root_square (x : Int) : In.sqrtN (x * x).natAbs = x.natAbs := by
  rw [Int.natAbs_mul]
  exact In.sqrtN_is (Nat.le_refl _) (Nat.mul_lt_mul'' (Nat.lt_succ_self _) (Nat.lt_succ_self _))
theorem square_pos (x : Int) : 0 ≤ x * x := by rw [← Int.natAbs_mul_self]; exact Int.natCast_nonneg _
theorem cmpR_up {x y : Int} (h : x ≤ y) : In.cmpZ x y ≤ 0 := by unfold In.cmpZ; split <;> (try split) <;> omega
set_option maxRecDepth 100000 in
set_option maxHeartbeats 4000000 in
theorem integerRoot_law (a : ByteArray) (w : World) (T : TabI w) (ha : a.size ≤ maxLen) :
    Calls Tryd.prog 8 #[.string a] w fun r w' => r = .returned (.bool true) ∧ Below w.heap.size w w' := by
  have HT := Lib.hid T
  have BB := Lib.hid (Below.refl w.heap.size w)
  have bx := madeZ_lt a 80
  have M1 := Lib.hid (fun W => Made_any a 80 W (by decide) ha)
  have HS := Lib.hid sane_any
  generalize madeZ a 80 = x at *
  have fx := In.fit_of bx (by decide)
  have bs := In.abs_mul bx bx
  have fs := In.fit_of bs (by decide)
  have Q1 := Lib.hid (Mul_t fx fx fs)
  have R2 := Lib.hid (Root_t fs (square_pos x))
  rw [root_square] at R2
  have C0 := Lib.hid (Cmp_0 fx)
  have hz0 := zero_is
  have ba : ((x.natAbs : Nat) : Int).natAbs < 10 ^ 80 := by rw [Int.natAbs_natCast]; exact bx
  have fa := In.fit_of ba (by decide)
  by_cases h0 : x < 0
  · have R1 := Lib.hid (Root_n fx h0)
    have A1 := Lib.hid (Add_t fa fx (by rw [show ((x.natAbs : Nat) : Int) + x = 0 by omega]; decide))
    rw [show ((x.natAbs : Nat) : Int) + x = 0 by omega] at A1
    have heq := txt_eq (x.natAbs : Int) x
    rw [decide_eq_false (by omega)] at heq
    rw [show In.cmpZ x 0 = -1 from if_pos h0] at C0
    clear T bx fx bs fs ba fa h0
    generalize In.txt (x.natAbs : Int) = s1 at *
    generalize In.txt (x * x) = s2 at *
    generalize In.txt 0 = t0 at *
    generalize In.txt x = tx at *
    go_enter Tryd.func8, Tryd.ntmps8
    go_wp2_with fail
    with_reducible refine Calls.mono (HS.out _ HT.out) ?_
    rintro e w1 ⟨rfl, hb⟩
    replace HT := Lib.hid (HT.out.next hb)
    replace BB := Lib.hid (Below.andThen BB.out hb)
    clear hb
    go_wp2_with fail
    with_reducible refine Calls.mono (M1.out _) ?_
    rintro e m1 ⟨rfl, hb⟩
    replace HT := Lib.hid (HT.out.next hb)
    replace BB := Lib.hid (Below.andThen BB.out hb)
    clear hb
    go_wp2_with fail
    with_reducible refine Calls.mono (R1.out _ HT.out) ?_
    rintro e w2 ⟨rfl, hb⟩
    replace HT := Lib.hid (HT.out.next hb)
    replace BB := Lib.hid (Below.andThen BB.out hb)
    clear hb
    go_wp2_with fail
    with_reducible refine Calls.mono (Q1.out _ HT.out) ?_
    rintro e w3 ⟨rfl, hb⟩
    replace HT := Lib.hid (HT.out.next hb)
    replace BB := Lib.hid (Below.andThen BB.out hb)
    clear hb
    go_wp2_with fail
    with_reducible refine Calls.mono (R2.out _ HT.out) ?_
    rintro e w4 ⟨rfl, hb⟩
    replace HT := Lib.hid (HT.out.next hb)
    replace BB := Lib.hid (Below.andThen BB.out hb)
    clear hb
    go_wp2_with fail
    with_reducible refine Calls.mono (A1.out _ HT.out) ?_
    rintro e w5 ⟨rfl, hb⟩
    replace HT := Lib.hid (HT.out.next hb)
    replace BB := Lib.hid (Below.andThen BB.out hb)
    clear hb
    go_wp2_with fail
    with_reducible refine Calls.mono (C0.out _) ?_
    rintro e w6 ⟨rfl, hb⟩
    replace HT := Lib.hid (HT.out.next hb)
    replace BB := Lib.hid (Below.andThen BB.out hb)
    clear hb
    go_wp2_with fail
    go_ret
    exact ⟨rfl, BB.out⟩
  · have h1 : 0 ≤ x := by omega
    have R1 := Lib.hid (Root_t fx h1)
    rw [Int.natAbs_of_nonneg h1] at R2 fa ba
    have b2 := In.abs_add bx bx
    have A1 := Lib.hid (Add_t fx fx (In.fit_of b2 (by decide)))
    obtain ⟨q, hq⟩ : ∃ q, q = In.sqrtN x.natAbs := ⟨_, rfl⟩
    have hr := In.sqrtN_ok x.natAbs
    have hl := In.sqrtN_le x.natAbs
    rw [← hq] at R1 hr hl
    have bq : ((q : Nat) : Int).natAbs < 10 ^ 80 := by rw [Int.natAbs_natCast]; exact Nat.lt_of_le_of_lt hl bx
    have fq := In.fit_of bq (by decide)
    have L1 := Lib.hid (Mul_t fq fq (In.fit_of (In.abs_mul bq bq) (by decide)))
    have bn := In.abs_add bq (In.abs_up (show (1 : Int).natAbs < 10 ^ 1 by decide) (l := 80) (by decide))
    have fn := In.fit_of bn (by decide)
    have N1 := Lib.hid (Add_1 fq fn)
    have fh := In.fit_of (In.abs_mul bn bn) (by decide)
    have G1 := Lib.hid (Mul_t fn fn fh)
    have C1 := Lib.hid (Cmp_t (In.fit_of (In.abs_mul bq bq) (by decide)) fx)
    have C2 := Lib.hid (Cmp_t fh fx)
    have hc1 : In.cmpZ ((q : Int) * q) x ≤ 0 := cmpR_up (by
      have := Int.ofNat_le.2 hr.1
      rw [Int.natCast_mul, Int.natAbs_of_nonneg h1] at this
      exact this)
    have hc2 : In.cmpZ (((q : Int) + 1) * (q + 1)) x = 1 := by
      have h2 := Int.ofNat_lt.2 hr.2
      rw [Int.natCast_mul, Int.natAbs_of_nonneg h1, Int.natCast_add, Int.natCast_one] at h2
      unfold In.cmpZ
      rw [if_neg (Int.lt_asymm h2), if_pos h2]
    rw [hc2] at C2
    have hc0 : 0 ≤ In.cmpZ x 0 := by unfold In.cmpZ; rw [if_neg h0]; split <;> decide
    have hd0 : decide (In.cmpZ x 0 < 0) = false := by rw [decide_eq_false_iff_not]; omega
    have hd1 : decide (In.cmpZ ((q : Int) * q) x ≤ 0) = true := by rw [decide_eq_true_eq]; exact hc1
    generalize In.cmpZ ((q : Int) * q) x = c1 at *
    generalize In.cmpZ x 0 = c0 at *
    clear T bx fx bs fs ba fa h0 h1 b2 hq hr hl bq fq bn fn fh hc2
    generalize In.txt (((q : Int) + 1) * (q + 1)) = s1 at *
    generalize In.txt ((q : Int) * q) = s2 at *
    generalize In.txt ((q : Int) + 1) = s3 at *
    generalize In.txt (q : Int) = s4 at *
    generalize In.txt (x * x) = s5 at *
    generalize In.txt (x + x) = s6 at *
    generalize In.txt 0 = t0 at *
    generalize In.txt x = tx at *
    go_enter Tryd.func8, Tryd.ntmps8
    go_wp2_with fail
    with_reducible refine Calls.mono (HS.out _ HT.out) ?_
    rintro e w1 ⟨rfl, hb⟩
    replace HT := Lib.hid (HT.out.next hb)
    replace BB := Lib.hid (Below.andThen BB.out hb)
    clear hb
    go_wp2_with fail
    with_reducible refine Calls.mono (M1.out _) ?_
    rintro e m1 ⟨rfl, hb⟩
    replace HT := Lib.hid (HT.out.next hb)
    replace BB := Lib.hid (Below.andThen BB.out hb)
    clear hb
    go_wp2_with fail
    with_reducible refine Calls.mono (R1.out _ HT.out) ?_
    rintro e w2 ⟨rfl, hb⟩
    replace HT := Lib.hid (HT.out.next hb)
    replace BB := Lib.hid (Below.andThen BB.out hb)
    clear hb
    go_wp2_with fail
    with_reducible refine Calls.mono (Q1.out _ HT.out) ?_
    rintro e w3 ⟨rfl, hb⟩
    replace HT := Lib.hid (HT.out.next hb)
    replace BB := Lib.hid (Below.andThen BB.out hb)
    clear hb
    go_wp2_with fail
    with_reducible refine Calls.mono (R2.out _ HT.out) ?_
    rintro e w4 ⟨rfl, hb⟩
    replace HT := Lib.hid (HT.out.next hb)
    replace BB := Lib.hid (Below.andThen BB.out hb)
    clear hb
    go_wp2_with fail
    with_reducible refine Calls.mono (A1.out _ HT.out) ?_
    rintro e w5 ⟨rfl, hb⟩
    replace HT := Lib.hid (HT.out.next hb)
    replace BB := Lib.hid (Below.andThen BB.out hb)
    clear hb
    go_wp2_with fail
    with_reducible refine Calls.mono (C0.out _) ?_
    rintro e w6 ⟨rfl, hb⟩
    replace HT := Lib.hid (HT.out.next hb)
    replace BB := Lib.hid (Below.andThen BB.out hb)
    clear hb
    go_wp2_with fail
    with_reducible refine Calls.mono (L1.out _ HT.out) ?_
    rintro e w7 ⟨rfl, hb⟩
    replace HT := Lib.hid (HT.out.next hb)
    replace BB := Lib.hid (Below.andThen BB.out hb)
    clear hb
    go_wp2_with fail
    with_reducible refine Calls.mono (N1.out _ HT.out) ?_
    rintro e w8 ⟨rfl, hb⟩
    replace HT := Lib.hid (HT.out.next hb)
    replace BB := Lib.hid (Below.andThen BB.out hb)
    clear hb
    go_wp2_with fail
    with_reducible refine Calls.mono (G1.out _ HT.out) ?_
    rintro e w9 ⟨rfl, hb⟩
    replace HT := Lib.hid (HT.out.next hb)
    replace BB := Lib.hid (Below.andThen BB.out hb)
    clear hb
    go_wp2_with fail
    with_reducible refine Calls.mono (C1.out _) ?_
    rintro e w10 ⟨rfl, hb⟩
    replace HT := Lib.hid (HT.out.next hb)
    replace BB := Lib.hid (Below.andThen BB.out hb)
    clear hb
    go_wp2_with fail
    with_reducible refine Calls.mono (C2.out _) ?_
    rintro e w11 ⟨rfl, hb⟩
    replace HT := Lib.hid (HT.out.next hb)
    replace BB := Lib.hid (Below.andThen BB.out hb)
    clear hb
    go_wp2_with fail
    go_ret
    exact ⟨rfl, BB.out⟩
namespace integerRoot
set_option maxRecDepth 100000 in
theorem contract (H : Type) (enc : TypeId × Value → H) (W : World) (base : Nat) (args : Array Value) (ds gs : List (DataW H)) (before : List MemPlace)
    (hval : ∀ (j : Nat) t v, Tryd.f8.params[j]? = some t → args[j]? = some v → Value.okWide Tryd.prog W .any base t v)
    (hW : DataW.Whole enc Tryd.prog Tryd.f8.params.toList Rows.integerRootSpec.vars false W args.toList ds gs before) (hL : laidMetH Tryd.prog Rows.integerRootRow.laid W) :
    Calls Tryd.prog 8 args W fun e W' => ∃ v, e = .returned v ∧ Rows.integerRootSpec.post enc Tryd.prog Tryd.f8 false true false false W args v W' := by
  have hW' := hW
  obtain ⟨p, q, hA0, hV, rfl, hfz, hnd⟩ := hW
  have hA : DataW.TrodAll enc Tryd.prog W 0 (fun _ => true) true Tryd.f8.params.toList args.toList ds p := hA0
  rw [Tryd.params8] at hA hval
  obtain ⟨v0, vs0, d0, ds0, p0, q0, hargs, rfl, rfl, h0, r0⟩ := trodAll_cons hA
  obtain ⟨rfl, rfl, rfl⟩ := trodAll_nil r0
  obtain rfl : args = #[v0] := by cases args; simp_all
  obtain ⟨a0, rfl, rfl, rfl, k0⟩ := Go.ChangeMaps.open_string Tryd.underlying9 (hval 0 _ _ rfl rfl) h0
  refine (integerRoot_law a0 W (tabI hL) k0).mono fun e W' ⟨he, hb⟩ => ?_
  subst he
  obtain ⟨rfl, _⟩ := trodVars_none hV
  exact ⟨_, rfl, law_post laidOut (by kernel_rfl) rfl (by kernel_rfl) Tryd.underlying4 hW' rfl hb⟩

noncomputable def laidWorld (os : Os) : World := World.laidAll Tryd.prog os Rows.integerRootRow.laid
def args0 : Array Value := #[.string ⟨#[]⟩]
theorem laid_met (os : Os) : laidMet Tryd.prog Rows.integerRootRow.laid ((laidWorld os).forCall (fun _ _ => 0) ⟨#[], args0, []⟩).memory :=
  laidMet_laidAll _ (by kernel_rfl) (by kernel_rfl)
theorem reads (os : Os) {H : Type} (enc : TypeId × Value → H) : ∃ places, DataW.whole enc Tryd.prog ((laidWorld os).forCall (fun _ _ => 0) ⟨#[], args0, []⟩).memory Tryd.f8.params.toList Rows.integerRootSpec.vars false args0.toList 8 = some ([.lit (.string [])], [], places) :=
  ⟨[], by kernel_rfl⟩

set_option maxRecDepth 100000 in
theorem lifted (os : Os) (started : os.Started) (H : Type) (enc : TypeId × Value → H) (F : Stop.Interp) :
    ReturnsInHanded {} Tryd.checked os 8 .any ((OpenSpec.ofChange Rows.integerRootSpec).preRow enc Tryd.prog Tryd.f8 Rows.integerRootRow.domain false Rows.integerRootRow.laid) (((OpenSpec.ofChange Rows.integerRootSpec).at F).post enc Tryd.prog Tryd.f8 false true false false) := by
  obtain ⟨places, hx⟩ := reads os enc
  refine returnsInHanded_of_row (C := Tryd.checked) (s := OpenSpec.ofChange Rows.integerRootSpec) own started (by kernel_rfl) Tryd.func8
    (witness_row_at (enc := enc) (C := Tryd.checked) false (laidWorld os) args0 (World.laidAll_os _ _ _) (by kernel_rfl) (by kernel_rfl) (by kernel_rfl)
      (OpenSpec.preRow_of_cond 8 hx (by kernel_rfl) (fun k hk => by cases hk) (by kernel_rfl) (laid_met os))) ?_
  intro W base args ds gs before hval hW _ _ _ hL _ _
  exact contract H enc W base args ds gs before hval hW hL

theorem said : Rows.IntegerRootSaid :=
  OpenClaim.holds_of_cond 8 Tryd.f8 rfl rfl rfl rfl rfl rfl rfl ⟨rfl, rfl, rfl, rfl, rfl⟩ rfl rfl rfl rfl rfl (by kernel_rfl) Tryd.func8 (by kernel_rfl)
    (of_decide_eq_true (by kernel_rfl)) (by unfold Func.isWrapper; first | (rw [if_pos (by decide +kernel)]; kernel_rfl) | (rw [if_neg (by decide +kernel)]; exact ⟨rfl, rfl⟩))
    (fun os started H enc _ F => by rw [OpenClaim.pre_eq_preRow]; exact lifted os started H enc F)

theorem plain (f : FuncId) (fn : Func) (hf : Tryd.pinned.checked.prog.funcNamed "newswire/newswirelaw03.IntegerRoot" = some f) (hfn : Tryd.pinned.checked.prog.funcs[f]? = some fn) :
    true = Tryd.pinned.checked.prog.looks [] ∧ ∀ (j : Nat) t, fn.params[j]? = some t → Tryd.pinned.checked.prog.wantsStandIn t = false := by
  obtain rfl : f = 8 := Option.some.inj ((show Tryd.prog.funcNamed "newswire/newswirelaw03.IntegerRoot" = some 8 by kernel_rfl).symm.trans hf) |>.symm
  obtain rfl : fn = Tryd.f8 := (Option.some.inj (Tryd.func8.symm.trans hfn)).symm
  refine ⟨by kernel_rfl, fun j t ht => ?_⟩
  have all : (Tryd.f8.params.toList.all fun t => Tryd.prog.wantsStandIn t == false) = true := by kernel_rfl
  have := List.all_eq_true.1 all t (by rw [← Array.mem_def]; exact Array.mem_of_getElem? ht)
  exact (show Tryd.prog.wantsStandIn t = false by simpa using this)

/-- The statement. -/
theorem card : Rows.IntegerRootCardSaid :=
  Claim7.holds_tied_plain_at .later [] _ _ _ _ said (fun _ h => by cases h) (by kernel_rfl) (fun _ h => by cases h) integerRoot_row_tie rfl ⟨rfl, rfl⟩ (by kernel_rfl) rfl plain (by kernel_rfl)
end integerRoot
end Go.Proofs.YtjhnfejlkljkjaaDoor
