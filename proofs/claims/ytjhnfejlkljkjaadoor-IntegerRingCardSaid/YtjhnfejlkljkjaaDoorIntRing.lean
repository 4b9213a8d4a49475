/- For every input, IntegerRing returns true; the listed tables hold what the program's text lays. -/
import Derived.Test.YtjhnfejlkljkjaaDoorIntOps
namespace Go.Proofs.YtjhnfejlkljkjaaDoor
open Go.RowKit Go.ChangeShapes Go.WideShapes Go.ChangeAt

set_option maxRecDepth 100000 in
set_option maxHeartbeats 4000000 in
theorem integerRing_law (a b c : ByteArray) (w : World) (T : TabI w) (ha : a.size ≤ maxLen) (hb : b.size ≤ maxLen) (hc : c.size ≤ maxLen) :
    Calls Tryd.prog 5 #[.string a, .string b, .string c] w fun r w' => r = .returned (.bool true) ∧ Below w.heap.size w w' := by
  have HT := Lib.hid T
  have BB := Lib.hid (Below.refl w.heap.size w)
  have bx := madeZ_lt a 60
  have b_y := madeZ_lt b 60
  have bz := madeZ_lt c 60
  have M1 := Lib.hid (fun W => Made_any a 60 W (by decide) ha)
  have M2 := Lib.hid (fun W => Made_any b 60 W (by decide) hb)
  have M3 := Lib.hid (fun W => Made_any c 60 W (by decide) hc)
  generalize madeZ a 60 = x at *
  generalize madeZ b 60 = y at *
  generalize madeZ c 60 = z at *
  have f1 : In.Fit (1 : Int) := by decide
  have f0 : In.Fit (0 : Int) := by decide
  have fx := In.fit_of bx (by decide)
  have fy := In.fit_of b_y (by decide)
  have fz := In.fit_of bz (by decide)
  have bxy := In.abs_add bx b_y
  have fxy := In.fit_of bxy (by decide)
  have byz := In.abs_add b_y bz
  have fyz := In.fit_of byz (by decide)
  have bxyz := In.abs_add bxy (In.abs_up bz (l := 60 + 1) (by decide))
  have fxyz := In.fit_of bxyz (by decide)
  have bp := In.abs_mul bx b_y
  have fp := In.fit_of bp (by decide)
  have bpz := In.abs_mul bp bz
  have fpz := In.fit_of bpz (by decide)
  have br := In.abs_mul b_y bz
  have fr := In.fit_of br (by decide)
  have fl := In.fit_of (In.abs_mul bxy bz) (by decide)
  have fxz := In.fit_of (In.abs_mul bx bz) (by decide)
  have fd := In.fit_of (In.abs_sub bx b_y) (by decide)
  have A1 := Lib.hid (Add_t fx fy fxy)
  have A2 := Lib.hid (Add_t fy fx (by rw [Int.add_comm]; exact fxy))
  rw [Int.add_comm y x] at A2
  have A3 := Lib.hid (Add_t fxy fz fxyz)
  have A4 := Lib.hid (Add_t fy fz fyz)
  have A5 := Lib.hid (Add_t fx fyz (by rw [← Int.add_assoc]; exact fxyz))
  rw [← Int.add_assoc] at A5
  have P1 := Lib.hid (Mul_t fx fy fp)
  have P2 := Lib.hid (Mul_t fy fx (by rw [Int.mul_comm]; exact fp))
  rw [Int.mul_comm y x] at P2
  have P3 := Lib.hid (Mul_t fp fz fpz)
  have P4 := Lib.hid (Mul_t fy fz fr)
  have P5 := Lib.hid (Mul_t fx fr (by rw [← Int.mul_assoc]; exact fpz))
  rw [← Int.mul_assoc] at P5
  have G1 := Lib.hid (Mul_t fxy fz fl)
  have G2 := Lib.hid (Mul_t fx fz fxz)
  have G3 := Lib.hid (Add_t fxz fr (by rw [← Int.add_mul]; exact fl))
  rw [← Int.add_mul] at G3
  have H1 := Lib.hid (Sub_t fx fy fd)
  have H2 := Lib.hid (Add_t fd fy (by rw [Int.sub_add_cancel]; exact fx))
  rw [Int.sub_add_cancel] at H2
  have H3 := Lib.hid (Mul_1 fx)
  have H4 := Lib.hid (Mul_0 fx)
  have hz0 := zero_is
  clear bx b_y bz f1 f0 fx fy fz bxy fxy byz fyz bxyz fxyz bp fp bpz fpz br fr fl fxz fd
  generalize In.txt 0 = t0 at *
  generalize In.txt (x + y + z) = s1 at *
  generalize In.txt (y + z) = s2 at *
  generalize In.txt (x * y * z) = s3 at *
  generalize In.txt ((x + y) * z) = s4 at *
  generalize In.txt (x + y) = s5 at *
  generalize In.txt (x * y) = s6 at *
  generalize In.txt (y * z) = s7 at *
  generalize In.txt (x * z) = s8 at *
  generalize In.txt (x - y) = s9 at *
  generalize In.txt x = tx at *
  generalize In.txt y = ty at *
  generalize In.txt z = tz at *
  clear T
  have HS := Lib.hid sane_any
  go_enter Tryd.func5, Tryd.ntmps5
  go_wp2_with fail
  with_reducible refine Calls.mono (HS.out _ HT.out) ?_
  rintro e w1 ⟨rfl, hb⟩
  replace HT := Lib.hid (HT.out.next hb)
  replace BB := Lib.hid (Below.andThen BB.out hb)
  clear hb
  go_wp2_with fail
  with_reducible refine Calls.mono (M1.out _) ?_
  rintro e m1 ⟨rfl, hb⟩
  replace HT := Lib.hid (HT.out.next hb)
  replace BB := Lib.hid (Below.andThen BB.out hb)
  clear hb
  go_wp2_with fail
  with_reducible refine Calls.mono (M2.out _) ?_
  rintro e m2 ⟨rfl, hb⟩
  replace HT := Lib.hid (HT.out.next hb)
  replace BB := Lib.hid (Below.andThen BB.out hb)
  clear hb
  go_wp2_with fail
  with_reducible refine Calls.mono (M3.out _) ?_
  rintro e m3 ⟨rfl, hb⟩
  replace HT := Lib.hid (HT.out.next hb)
  replace BB := Lib.hid (Below.andThen BB.out hb)
  clear hb
  go_wp2_with fail
  with_reducible refine Calls.mono (A1.out _ HT.out) ?_
  rintro e w_A1 ⟨rfl, hb⟩
  replace HT := Lib.hid (HT.out.next hb)
  replace BB := Lib.hid (Below.andThen BB.out hb)
  clear hb
  go_wp2_with fail
  with_reducible refine Calls.mono (A2.out _ HT.out) ?_
  rintro e w_A2 ⟨rfl, hb⟩
  replace HT := Lib.hid (HT.out.next hb)
  replace BB := Lib.hid (Below.andThen BB.out hb)
  clear hb
  go_wp2_with fail
  with_reducible refine Calls.mono (A3.out _ HT.out) ?_
  rintro e w_A3 ⟨rfl, hb⟩
  replace HT := Lib.hid (HT.out.next hb)
  replace BB := Lib.hid (Below.andThen BB.out hb)
  clear hb
  go_wp2_with fail
  with_reducible refine Calls.mono (A4.out _ HT.out) ?_
  rintro e w_A4 ⟨rfl, hb⟩
  replace HT := Lib.hid (HT.out.next hb)
  replace BB := Lib.hid (Below.andThen BB.out hb)
  clear hb
  go_wp2_with fail
  with_reducible refine Calls.mono (A5.out _ HT.out) ?_
  rintro e w_A5 ⟨rfl, hb⟩
  replace HT := Lib.hid (HT.out.next hb)
  replace BB := Lib.hid (Below.andThen BB.out hb)
  clear hb
  go_wp2_with fail
  with_reducible refine Calls.mono (P1.out _ HT.out) ?_
  rintro e w_P1 ⟨rfl, hb⟩
  replace HT := Lib.hid (HT.out.next hb)
  replace BB := Lib.hid (Below.andThen BB.out hb)
  clear hb
  go_wp2_with fail
  with_reducible refine Calls.mono (P2.out _ HT.out) ?_
  rintro e w_P2 ⟨rfl, hb⟩
  replace HT := Lib.hid (HT.out.next hb)
  replace BB := Lib.hid (Below.andThen BB.out hb)
  clear hb
  go_wp2_with fail
  with_reducible refine Calls.mono (P3.out _ HT.out) ?_
  rintro e w_P3 ⟨rfl, hb⟩
  replace HT := Lib.hid (HT.out.next hb)
  replace BB := Lib.hid (Below.andThen BB.out hb)
  clear hb
  go_wp2_with fail
  with_reducible refine Calls.mono (P4.out _ HT.out) ?_
  rintro e w_P4 ⟨rfl, hb⟩
  replace HT := Lib.hid (HT.out.next hb)
  replace BB := Lib.hid (Below.andThen BB.out hb)
  clear hb
  go_wp2_with fail
  with_reducible refine Calls.mono (P5.out _ HT.out) ?_
  rintro e w_P5 ⟨rfl, hb⟩
  replace HT := Lib.hid (HT.out.next hb)
  replace BB := Lib.hid (Below.andThen BB.out hb)
  clear hb
  go_wp2_with fail
  with_reducible refine Calls.mono (G1.out _ HT.out) ?_
  rintro e w_G1 ⟨rfl, hb⟩
  replace HT := Lib.hid (HT.out.next hb)
  replace BB := Lib.hid (Below.andThen BB.out hb)
  clear hb
  go_wp2_with fail
  with_reducible refine Calls.mono (G2.out _ HT.out) ?_
  rintro e w_G2 ⟨rfl, hb⟩
  replace HT := Lib.hid (HT.out.next hb)
  replace BB := Lib.hid (Below.andThen BB.out hb)
  clear hb
  go_wp2_with fail
  with_reducible refine Calls.mono (G3.out _ HT.out) ?_
  rintro e w_G3 ⟨rfl, hb⟩
  replace HT := Lib.hid (HT.out.next hb)
  replace BB := Lib.hid (Below.andThen BB.out hb)
  clear hb
  go_wp2_with fail
  with_reducible refine Calls.mono (H1.out _ HT.out) ?_
  rintro e w_H1 ⟨rfl, hb⟩
  replace HT := Lib.hid (HT.out.next hb)
  replace BB := Lib.hid (Below.andThen BB.out hb)
  clear hb
  go_wp2_with fail
  with_reducible refine Calls.mono (H2.out _ HT.out) ?_
  rintro e w_H2 ⟨rfl, hb⟩
  replace HT := Lib.hid (HT.out.next hb)
  replace BB := Lib.hid (Below.andThen BB.out hb)
  clear hb
  go_wp2_with fail
  with_reducible refine Calls.mono (H3.out _ HT.out) ?_
  rintro e w_H3 ⟨rfl, hb⟩
  replace HT := Lib.hid (HT.out.next hb)
  replace BB := Lib.hid (Below.andThen BB.out hb)
  clear hb
  go_wp2_with fail
  with_reducible refine Calls.mono (H4.out _ HT.out) ?_
  rintro e w_H4 ⟨rfl, hb⟩
  replace HT := Lib.hid (HT.out.next hb)
  replace BB := Lib.hid (Below.andThen BB.out hb)
  clear hb
  go_wp2_with fail
  go_ret
  exact ⟨rfl, BB.out⟩
namespace integerRing
set_option maxRecDepth 100000 in
theorem contract (H : Type) (enc : TypeId × Value → H) (W : World) (base : Nat) (args : Array Value) (ds gs : List (DataW H)) (before : List MemPlace)
    (hval : ∀ (j : Nat) t v, Tryd.f5.params[j]? = some t → args[j]? = some v → Value.okWide Tryd.prog W .any base t v)
    (hW : DataW.Whole enc Tryd.prog Tryd.f5.params.toList Rows.integerRingSpec.vars false W args.toList ds gs before) (hL : laidMetH Tryd.prog Rows.integerRingRow.laid W) :
    Calls Tryd.prog 5 args W fun e W' => ∃ v, e = .returned v ∧ Rows.integerRingSpec.post enc Tryd.prog Tryd.f5 false true false false W args v W' := by
  have hW' := hW
  obtain ⟨p, q, hA0, hV, rfl, hfz, hnd⟩ := hW
  have hA : DataW.TrodAll enc Tryd.prog W 0 (fun _ => true) true Tryd.f5.params.toList args.toList ds p := hA0
  rw [Tryd.params5] at hA hval
  obtain ⟨v0, vs0, d0, ds0, p0, q0, hargs, rfl, rfl, h0, r0⟩ := trodAll_cons hA
  obtain ⟨v1, vs1, d1, ds1, p1, q1, rfl, rfl, rfl, h1, r1⟩ := trodAll_cons r0
  obtain ⟨v2, vs2, d2, ds2, p2, q2, rfl, rfl, rfl, h2, r2⟩ := trodAll_cons r1
  obtain ⟨rfl, rfl, rfl⟩ := trodAll_nil r2
  obtain rfl : args = #[v0, v1, v2] := by cases args; simp_all
  obtain ⟨a0, rfl, rfl, rfl, k0⟩ := Go.ChangeMaps.open_string Tryd.underlying9 (hval 0 _ _ rfl rfl) h0
  obtain ⟨a1, rfl, rfl, rfl, k1⟩ := Go.ChangeMaps.open_string Tryd.underlying9 (hval 1 _ _ rfl rfl) h1
  obtain ⟨a2, rfl, rfl, rfl, k2⟩ := Go.ChangeMaps.open_string Tryd.underlying9 (hval 2 _ _ rfl rfl) h2
  refine (integerRing_law a0 a1 a2 W (tabI hL) k0 k1 k2).mono fun e W' ⟨he, hb⟩ => ?_
  subst he
  obtain ⟨rfl, _⟩ := trodVars_none hV
  exact ⟨_, rfl, law_post laidOut (by kernel_rfl) rfl (by kernel_rfl) Tryd.underlying4 hW' rfl hb⟩

noncomputable def laidWorld (os : Os) : World := World.laidAll Tryd.prog os Rows.integerRingRow.laid
def args0 : Array Value := #[.string ⟨#[]⟩, .string ⟨#[]⟩, .string ⟨#[]⟩]
theorem laid_met (os : Os) : laidMet Tryd.prog Rows.integerRingRow.laid ((laidWorld os).forCall (fun _ _ => 0) ⟨#[], args0, []⟩).memory :=
  laidMet_laidAll _ (by kernel_rfl) (by kernel_rfl)
theorem reads (os : Os) {H : Type} (enc : TypeId × Value → H) : ∃ places, DataW.whole enc Tryd.prog ((laidWorld os).forCall (fun _ _ => 0) ⟨#[], args0, []⟩).memory Tryd.f5.params.toList Rows.integerRingSpec.vars false args0.toList 8 = some ([.lit (.string []), .lit (.string []), .lit (.string [])], [], places) :=
  ⟨[], by kernel_rfl⟩

set_option maxRecDepth 100000 in
theorem lifted (os : Os) (started : os.Started) (H : Type) (enc : TypeId × Value → H) (F : Stop.Interp) :
    ReturnsInHanded {} Tryd.checked os 5 .any ((OpenSpec.ofChange Rows.integerRingSpec).preRow enc Tryd.prog Tryd.f5 Rows.integerRingRow.domain false Rows.integerRingRow.laid) (((OpenSpec.ofChange Rows.integerRingSpec).at F).post enc Tryd.prog Tryd.f5 false true false false) := by
  obtain ⟨places, hx⟩ := reads os enc
  refine returnsInHanded_of_row (C := Tryd.checked) (s := OpenSpec.ofChange Rows.integerRingSpec) own started (by kernel_rfl) Tryd.func5
    (witness_row_at (enc := enc) (C := Tryd.checked) false (laidWorld os) args0 (World.laidAll_os _ _ _) (by kernel_rfl) (by kernel_rfl) (by kernel_rfl)
      (OpenSpec.preRow_of_cond 8 hx (by kernel_rfl) (fun k hk => by cases hk) (by kernel_rfl) (laid_met os))) ?_
  intro W base args ds gs before hval hW _ _ _ hL _ _
  exact contract H enc W base args ds gs before hval hW hL

theorem said : Rows.IntegerRingSaid :=
  OpenClaim.holds_of_cond 5 Tryd.f5 rfl rfl rfl rfl rfl rfl rfl ⟨rfl, rfl, rfl, rfl, rfl⟩ rfl rfl rfl rfl rfl (by kernel_rfl) Tryd.func5 (by kernel_rfl)
    (of_decide_eq_true (by kernel_rfl)) (by unfold Func.isWrapper; first | (rw [if_pos (by decide +kernel)]; kernel_rfl) | (rw [if_neg (by decide +kernel)]; exact ⟨rfl, rfl⟩))
    (fun os started H enc _ F => by rw [OpenClaim.pre_eq_preRow]; exact lifted os started H enc F)

theorem plain (f : FuncId) (fn : Func) (hf : Tryd.pinned.checked.prog.funcNamed "newswire/newswirelaw03.IntegerRing" = some f) (hfn : Tryd.pinned.checked.prog.funcs[f]? = some fn) :
    true = Tryd.pinned.checked.prog.looks [] ∧ ∀ (j : Nat) t, fn.params[j]? = some t → Tryd.pinned.checked.prog.wantsStandIn t = false := by
  obtain rfl : f = 5 := Option.some.inj ((show Tryd.prog.funcNamed "newswire/newswirelaw03.IntegerRing" = some 5 by kernel_rfl).symm.trans hf) |>.symm
  obtain rfl : fn = Tryd.f5 := (Option.some.inj (Tryd.func5.symm.trans hfn)).symm
  refine ⟨by kernel_rfl, fun j t ht => ?_⟩
  have all : (Tryd.f5.params.toList.all fun t => Tryd.prog.wantsStandIn t == false) = true := by kernel_rfl
  have := List.all_eq_true.1 all t (by rw [← Array.mem_def]; exact Array.mem_of_getElem? ht)
  exact (show Tryd.prog.wantsStandIn t = false by simpa using this)

/-- The statement. -/
theorem card : Rows.IntegerRingCardSaid :=
  Claim7.holds_tied_plain_at .later [] _ _ _ _ said (fun _ h => by cases h) (by kernel_rfl) (fun _ h => by cases h) integerRing_row_tie rfl ⟨rfl, rfl⟩ (by kernel_rfl) rfl plain (by kernel_rfl)
end integerRing
end Go.Proofs.YtjhnfejlkljkjaaDoor
