/- For every input, IntegerText returns true; the listed tables hold what the program's text lays. -/
import Derived.Test.YtjhnfejlkljkjaaDoorIntOps
namespace Go.Proofs.YtjhnfejlkljkjaaDoor
open Go.RowKit Go.ChangeShapes Go.WideShapes Go.ChangeAt

/-- a text's first n bytes -/
def cutT (s : ByteArray) (n : Nat) : ByteArray := s.extract 0 n
theorem cutT_size (s : ByteArray) (n : Nat) : (cutT s n).size = min s.size n := by unfold cutT; rw [ByteArray.size_extract]; omega
theorem cutT_eq (s : ByteArray) (n : Nat) : s.extract 0 (min (s.size : Int) n).toNat = cutT s n := by
  unfold cutT
  apply ByteArray.ext
  simp only [ByteArray.data_extract]
  apply Array.toList_inj.1
  simp only [Array.toList_extract, List.extract_eq_take_drop, List.drop_zero, Nat.sub_zero]
  rw [List.take_eq_take_iff]
  simp
  omega
theorem toS_fit {n : Int} (h : -9223372036854775808 ≤ n ∧ n ≤ 9223372036854775807) : In.toS (In.txt n) = (n, 0) ∧ In.Fit n := by
  have f : In.Fit n := by
    show n.natAbs < 10 ^ 200
    have h1 : n.natAbs < 10 ^ 19 := by omega
    exact Nat.lt_of_lt_of_le h1 (Nat.pow_le_pow_right (by decide) (by decide))
  rw [In.toS_some (In.num_fit f), if_pos h]
  exact ⟨rfl, f⟩
set_option maxRecDepth 100000 in
set_option maxHeartbeats 4000000 in
theorem integerText_law (n : Int) (s : ByteArray) (w : World) (TT : TabI w ∧ TabE w) (hn : -9223372036854775808 ≤ n ∧ n ≤ 9223372036854775807) (hs : s.size ≤ maxLen) :
    Calls Tryd.prog 4 #[.int .i64 n, .string s] w fun r w' => r = .returned (.bool true) ∧ Below w.heap.size w w' := by
  have HT := Lib.hid TT.1
  have HE := Lib.hid TT.2
  have BB := Lib.hid (Below.refl w.heap.size w)
  have HS := Lib.hid sane_any
  obtain ⟨t1, t2⟩ := toS_fit hn
  have F1 := Lib.hid (fun W h => FromInt_any n W hn h)
  have I1 := Lib.hid (ToInt_any (In.txt n))
  rw [t1] at I1
  have V1 := Lib.hid (Valid_t n)
  rw [decide_eq_true t2] at V1
  have hcut : s.extract 0 (min (s.size : Int) 30).toNat = cutT s 30 := cutT_eq s 30
  have hz := cutT_size s 30
  unfold maxLen at hs
  obtain ⟨p, hp⟩ : ∃ p, p = cutT s 30 := ⟨_, rfl⟩
  rw [← hp] at hcut hz
  have I2 := Lib.hid (ToInt_any p)
  have V2 := Lib.hid (valid_any p)
  have key : (In.toS p = (0, 30)) ∨ ∃ x, In.toS p = (x, 0) ∧ p = In.txt x ∧ In.validL p.data.toList = true ∧ -9223372036854775808 ≤ x ∧ x ≤ 9223372036854775807 := by
    cases hx : In.num p with
    | none => exact .inl (In.toS_none hx)
    | some x =>
      rw [In.toS_some hx]
      by_cases hh : -9223372036854775808 ≤ x ∧ x ≤ 9223372036854775807
      · rw [if_pos hh]
        refine .inr ⟨x, rfl, (In.num_some hx).1, ?_, hh.1, hh.2⟩
        rw [← In.num_isSome, hx]
        rfl
      · rw [if_neg hh]
        exact .inl rfl
  have hcs : s.size ≤ 30 ∨ ¬ s.size ≤ 30 := by omega
  clear hp t1 t2 TT hn
  rcases key with hk | ⟨x, hk, hpx, hv, hx1, hx2⟩
  · rw [hk] at I2
    clear hk V2
    generalize In.txt n = tn at *
    rcases hcs with hcs | hcs
    · go_enter Tryd.func4, Tryd.ntmps4
      go_wp2_with fail
      with_reducible refine Calls.mono (HS.out _ HT.out) ?_
      rintro e w1 ⟨rfl, hb⟩
      replace HT := Lib.hid (HT.out.next hb)
      replace HE := Lib.hid (HE.out.next hb)
      replace BB := Lib.hid (Below.andThen BB.out hb)
      clear hb
      go_wp2_with fail
      with_reducible refine Calls.mono (F1.out _ HT.out) ?_
      rintro e w2 ⟨rfl, hb⟩
      replace HT := Lib.hid (HT.out.next hb)
      replace HE := Lib.hid (HE.out.next hb)
      replace BB := Lib.hid (Below.andThen BB.out hb)
      clear hb
      go_wp2_with fail
      with_reducible refine Calls.mono (I1.out _ HE.out) ?_
      rintro e w3 ⟨rfl, hb⟩
      replace HT := Lib.hid (HT.out.next hb)
      replace HE := Lib.hid (HE.out.next hb)
      replace BB := Lib.hid (Below.andThen BB.out hb)
      clear hb
      go_wp2_with fail
      with_reducible refine Calls.mono (I2.out _ HE.out) ?_
      rintro e w4 ⟨rfl, hb⟩
      replace HT := Lib.hid (HT.out.next hb)
      replace HE := Lib.hid (HE.out.next hb)
      replace BB := Lib.hid (Below.andThen BB.out hb)
      clear hb
      go_wp2_with fail
      with_reducible refine Calls.mono (V1.out _) ?_
      rintro e w' ⟨rfl, rfl⟩
      go_wp2_with fail
      go_ret
      exact ⟨rfl, BB.out⟩
    · go_enter Tryd.func4, Tryd.ntmps4
      go_wp2_with fail
      with_reducible refine Calls.mono (HS.out _ HT.out) ?_
      rintro e w1 ⟨rfl, hb⟩
      replace HT := Lib.hid (HT.out.next hb)
      replace HE := Lib.hid (HE.out.next hb)
      replace BB := Lib.hid (Below.andThen BB.out hb)
      clear hb
      go_wp2_with fail
      with_reducible refine Calls.mono (F1.out _ HT.out) ?_
      rintro e w2 ⟨rfl, hb⟩
      replace HT := Lib.hid (HT.out.next hb)
      replace HE := Lib.hid (HE.out.next hb)
      replace BB := Lib.hid (Below.andThen BB.out hb)
      clear hb
      go_wp2_with fail
      with_reducible refine Calls.mono (I1.out _ HE.out) ?_
      rintro e w3 ⟨rfl, hb⟩
      replace HT := Lib.hid (HT.out.next hb)
      replace HE := Lib.hid (HE.out.next hb)
      replace BB := Lib.hid (Below.andThen BB.out hb)
      clear hb
      go_wp2_with fail
      with_reducible refine Calls.mono (I2.out _ HE.out) ?_
      rintro e w4 ⟨rfl, hb⟩
      replace HT := Lib.hid (HT.out.next hb)
      replace HE := Lib.hid (HE.out.next hb)
      replace BB := Lib.hid (Below.andThen BB.out hb)
      clear hb
      go_wp2_with fail
      with_reducible refine Calls.mono (V1.out _) ?_
      rintro e w' ⟨rfl, rfl⟩
      go_wp2_with fail
      go_ret
      exact ⟨rfl, BB.out⟩
  · have F2 := Lib.hid (fun W h => FromInt_any x W ⟨hx1, hx2⟩ h)
    rw [← hpx] at F2
    rw [hk] at I2
    rw [hv] at V2
    clear hk hv hpx
    generalize In.txt n = tn at *
    rcases hcs with hcs | hcs
    · go_enter Tryd.func4, Tryd.ntmps4
      go_wp2_with fail
      with_reducible refine Calls.mono (HS.out _ HT.out) ?_
      rintro e w1 ⟨rfl, hb⟩
      replace HT := Lib.hid (HT.out.next hb)
      replace HE := Lib.hid (HE.out.next hb)
      replace BB := Lib.hid (Below.andThen BB.out hb)
      clear hb
      go_wp2_with fail
      with_reducible refine Calls.mono (F1.out _ HT.out) ?_
      rintro e w2 ⟨rfl, hb⟩
      replace HT := Lib.hid (HT.out.next hb)
      replace HE := Lib.hid (HE.out.next hb)
      replace BB := Lib.hid (Below.andThen BB.out hb)
      clear hb
      go_wp2_with fail
      with_reducible refine Calls.mono (I1.out _ HE.out) ?_
      rintro e w3 ⟨rfl, hb⟩
      replace HT := Lib.hid (HT.out.next hb)
      replace HE := Lib.hid (HE.out.next hb)
      replace BB := Lib.hid (Below.andThen BB.out hb)
      clear hb
      go_wp2_with fail
      with_reducible refine Calls.mono (I2.out _ HE.out) ?_
      rintro e w4 ⟨rfl, hb⟩
      replace HT := Lib.hid (HT.out.next hb)
      replace HE := Lib.hid (HE.out.next hb)
      replace BB := Lib.hid (Below.andThen BB.out hb)
      clear hb
      go_wp2_with fail
      with_reducible refine Calls.mono (V1.out _) ?_
      rintro e w' ⟨rfl, rfl⟩
      go_wp2_with fail
      with_reducible refine Calls.mono (V2.out _) ?_
      rintro e w' ⟨rfl, rfl⟩
      go_wp2_with fail
      with_reducible refine Calls.mono (F2.out _ HT.out) ?_
      rintro e w5 ⟨rfl, hb⟩
      replace HT := Lib.hid (HT.out.next hb)
      replace HE := Lib.hid (HE.out.next hb)
      replace BB := Lib.hid (Below.andThen BB.out hb)
      clear hb
      go_wp2_with fail
      go_ret
      exact ⟨rfl, BB.out⟩
    · go_enter Tryd.func4, Tryd.ntmps4
      go_wp2_with fail
      with_reducible refine Calls.mono (HS.out _ HT.out) ?_
      rintro e w1 ⟨rfl, hb⟩
      replace HT := Lib.hid (HT.out.next hb)
      replace HE := Lib.hid (HE.out.next hb)
      replace BB := Lib.hid (Below.andThen BB.out hb)
      clear hb
      go_wp2_with fail
      with_reducible refine Calls.mono (F1.out _ HT.out) ?_
      rintro e w2 ⟨rfl, hb⟩
      replace HT := Lib.hid (HT.out.next hb)
      replace HE := Lib.hid (HE.out.next hb)
      replace BB := Lib.hid (Below.andThen BB.out hb)
      clear hb
      go_wp2_with fail
      with_reducible refine Calls.mono (I1.out _ HE.out) ?_
      rintro e w3 ⟨rfl, hb⟩
      replace HT := Lib.hid (HT.out.next hb)
      replace HE := Lib.hid (HE.out.next hb)
      replace BB := Lib.hid (Below.andThen BB.out hb)
      clear hb
      go_wp2_with fail
      with_reducible refine Calls.mono (I2.out _ HE.out) ?_
      rintro e w4 ⟨rfl, hb⟩
      replace HT := Lib.hid (HT.out.next hb)
      replace HE := Lib.hid (HE.out.next hb)
      replace BB := Lib.hid (Below.andThen BB.out hb)
      clear hb
      go_wp2_with fail
      with_reducible refine Calls.mono (V1.out _) ?_
      rintro e w' ⟨rfl, rfl⟩
      go_wp2_with fail
      with_reducible refine Calls.mono (V2.out _) ?_
      rintro e w' ⟨rfl, rfl⟩
      go_wp2_with fail
      with_reducible refine Calls.mono (F2.out _ HT.out) ?_
      rintro e w5 ⟨rfl, hb⟩
      replace HT := Lib.hid (HT.out.next hb)
      replace HE := Lib.hid (HE.out.next hb)
      replace BB := Lib.hid (Below.andThen BB.out hb)
      clear hb
      go_wp2_with fail
      go_ret
      exact ⟨rfl, BB.out⟩
namespace integerText
set_option maxRecDepth 100000 in
theorem contract (H : Type) (enc : TypeId × Value → H) (W : World) (base : Nat) (args : Array Value) (ds gs : List (DataW H)) (before : List MemPlace)
    (hval : ∀ (j : Nat) t v, Tryd.f4.params[j]? = some t → args[j]? = some v → Value.okWide Tryd.prog W .any base t v)
    (hW : DataW.Whole enc Tryd.prog Tryd.f4.params.toList Rows.integerTextSpec.vars false W args.toList ds gs before) (hL : laidMetH Tryd.prog Rows.integerTextRow.laid W) :
    Calls Tryd.prog 4 args W fun e W' => ∃ v, e = .returned v ∧ Rows.integerTextSpec.post enc Tryd.prog Tryd.f4 false true false false W args v W' := by
  have hW' := hW
  obtain ⟨p, q, hA0, hV, rfl, hfz, hnd⟩ := hW
  have hA : DataW.TrodAll enc Tryd.prog W 0 (fun _ => true) true Tryd.f4.params.toList args.toList ds p := hA0
  rw [Tryd.params4] at hA hval
  obtain ⟨v0, vs0, d0, ds0, p0, q0, hargs, rfl, rfl, h0, r0⟩ := trodAll_cons hA
  obtain ⟨v1, vs1, d1, ds1, p1, q1, rfl, rfl, rfl, h1, r1⟩ := trodAll_cons r0
  obtain ⟨rfl, rfl, rfl⟩ := trodAll_nil r1
  obtain rfl : args = #[v0, v1] := by cases args; simp_all
  obtain ⟨a0, rfl, rfl, rfl, k0⟩ := open_int Tryd.underlying3 (hval 0 _ _ rfl rfl) h0
  obtain ⟨a1, rfl, rfl, rfl, k1⟩ := Go.ChangeMaps.open_string Tryd.underlying9 (hval 1 _ _ rfl rfl) h1
  refine (integerText_law a0 a1 W (⟨tabI hL, tabE hL⟩) (bd_i64 k0) k1).mono fun e W' ⟨he, hb⟩ => ?_
  subst he
  obtain ⟨rfl, _⟩ := trodVars_none hV
  exact ⟨_, rfl, law_post laidOut (by kernel_rfl) rfl (by kernel_rfl) Tryd.underlying4 hW' rfl hb⟩

noncomputable def laidWorld (os : Os) : World := World.laidAll Tryd.prog os Rows.integerTextRow.laid
def args0 : Array Value := #[.int .i64 0, .string ⟨#[]⟩]
theorem laid_met (os : Os) : laidMet Tryd.prog Rows.integerTextRow.laid ((laidWorld os).forCall (fun _ _ => 0) ⟨#[], args0, []⟩).memory :=
  laidMet_laidAll _ (by kernel_rfl) (by kernel_rfl)
theorem reads (os : Os) {H : Type} (enc : TypeId × Value → H) : ∃ places, DataW.whole enc Tryd.prog ((laidWorld os).forCall (fun _ _ => 0) ⟨#[], args0, []⟩).memory Tryd.f4.params.toList Rows.integerTextSpec.vars false args0.toList 8 = some ([.lit (.int .i64 0), .lit (.string [])], [], places) :=
  ⟨[], by kernel_rfl⟩

set_option maxRecDepth 100000 in
theorem lifted (os : Os) (started : os.Started) (H : Type) (enc : TypeId × Value → H) (F : Stop.Interp) :
    ReturnsInHanded {} Tryd.checked os 4 .any ((OpenSpec.ofChange Rows.integerTextSpec).preRow enc Tryd.prog Tryd.f4 Rows.integerTextRow.domain false Rows.integerTextRow.laid) (((OpenSpec.ofChange Rows.integerTextSpec).at F).post enc Tryd.prog Tryd.f4 false true false false) := by
  obtain ⟨places, hx⟩ := reads os enc
  refine returnsInHanded_of_row (C := Tryd.checked) (s := OpenSpec.ofChange Rows.integerTextSpec) own started (by kernel_rfl) Tryd.func4
    (witness_row_at (enc := enc) (C := Tryd.checked) false (laidWorld os) args0 (World.laidAll_os _ _ _) (by kernel_rfl) (by kernel_rfl) (by kernel_rfl)
      (OpenSpec.preRow_of_cond 8 hx (by kernel_rfl) (fun k hk => by cases hk) (by kernel_rfl) (laid_met os))) ?_
  intro W base args ds gs before hval hW _ _ _ hL _ _
  exact contract H enc W base args ds gs before hval hW hL

theorem said : Rows.IntegerTextSaid :=
  OpenClaim.holds_of_cond 4 Tryd.f4 rfl rfl rfl rfl rfl rfl rfl ⟨rfl, rfl, rfl, rfl, rfl⟩ rfl rfl rfl rfl rfl (by kernel_rfl) Tryd.func4 (by kernel_rfl)
    (of_decide_eq_true (by kernel_rfl)) (by unfold Func.isWrapper; first | (rw [if_pos (by decide +kernel)]; kernel_rfl) | (rw [if_neg (by decide +kernel)]; exact ⟨rfl, rfl⟩))
    (fun os started H enc _ F => by rw [OpenClaim.pre_eq_preRow]; exact lifted os started H enc F)

theorem plain (f : FuncId) (fn : Func) (hf : Tryd.pinned.checked.prog.funcNamed "newswire/newswirelaw03.IntegerText" = some f) (hfn : Tryd.pinned.checked.prog.funcs[f]? = some fn) :
    true = Tryd.pinned.checked.prog.looks [] ∧ ∀ (j : Nat) t, fn.params[j]? = some t → Tryd.pinned.checked.prog.wantsStandIn t = false := by
  obtain rfl : f = 4 := Option.some.inj ((show Tryd.prog.funcNamed "newswire/newswirelaw03.IntegerText" = some 4 by kernel_rfl).symm.trans hf) |>.symm
  obtain rfl : fn = Tryd.f4 := (Option.some.inj (Tryd.func4.symm.trans hfn)).symm
  refine ⟨by kernel_rfl, fun j t ht => ?_⟩
  have all : (Tryd.f4.params.toList.all fun t => Tryd.prog.wantsStandIn t == false) = true := by kernel_rfl
  have := List.all_eq_true.1 all t (by rw [← Array.mem_def]; exact Array.mem_of_getElem? ht)
  exact (show Tryd.prog.wantsStandIn t = false by simpa using this)

/-- The statement. -/
theorem card : Rows.IntegerTextCardSaid :=
  Claim7.holds_tied_plain_at .later [] _ _ _ _ said (fun _ h => by cases h) (by kernel_rfl) (fun _ h => by cases h) integerText_row_tie rfl ⟨rfl, rfl⟩ (by kernel_rfl) rfl plain (by kernel_rfl)
end integerText
end Go.Proofs.YtjhnfejlkljkjaaDoor
