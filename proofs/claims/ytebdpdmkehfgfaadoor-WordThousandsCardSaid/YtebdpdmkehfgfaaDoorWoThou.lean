/- WordThousands holds for every input: the words of q * 1000 + r are those of q * 1000, followed by those of r; and different numbers have different words. The tables are as the program's text lays them. -/
import Derived.Test.YtebdpdmkehfgfaaDoorWoZ
import Derived.Test.YtebdpdmkehfgfaaDoorWoFr
set_option linter.unusedVariables false
set_option linter.unusedSimpArgs false
namespace Go.Proofs.YtebdpdmkehfgfaaDoor
open Go.RowKit Go.ChangeShapes Go.WideShapes Go.ChangeAt
open Wo in
set_option maxRecDepth 100000 in
set_option maxHeartbeats 4000000 in
theorem wordThousands_law (x0 n0 m0 : Int) (w : World) (T : Wo.Tab w) (hx : -9223372036854775808 ≤ x0 ∧ x0 ≤ 9223372036854775807) (hn : -9223372036854775808 ≤ n0 ∧ n0 ≤ 9223372036854775807) (hm : -9223372036854775808 ≤ m0 ∧ m0 ≤ 9223372036854775807) :
    Calls Tryd.prog 9 #[.int .i64 x0, .int .i64 n0, .int .i64 m0] w fun e w' => e = .returned (.bool true) ∧ Below w.heap.size w w' := by
  obtain ⟨k, hk, PK⟩ := pick_k x0 3 3 rfl (by decide) hx
  obtain ⟨x, hx6, PX⟩ := pick_k n0 1000000 1000000 rfl (by decide) hn
  obtain ⟨y, hy6, PY⟩ := pick_k m0 1000000 1000000 rfl (by decide) hm
  have HPK := Lib.hid PK
  have HPX := Lib.hid PX
  have HPY := Lib.hid PY
  have HT := Lib.hid T
  have BB := Lib.hid (Below.refl w.heap.size w)
  have CW := Lib.hid (fun (j : Nat) (hj : j < 1000000) J (hJ : J = (j : Int)) L (hL : L = 1 + (k : Int)) W T => Words_k k j L J hk hL hJ hj W T)
  obtain ⟨q, hq⟩ : ∃ q, x - x % 1000 = q := ⟨_, rfl⟩
  obtain ⟨r, hr⟩ : ∃ r, x % 1000 = r := ⟨_, rfl⟩
  have hri : (x : Int) % 1000 = r := by omega
  have hqi : (x : Int) - r = q := by omega
  have q6 : q < 1000000 := by omega
  have r6 : r < 1000000 := by omega
  have LA := Lib.hid (words_len k hx6)
  have LB := Lib.hid (words_len k hy6)
  have LC := Lib.hid (words_len k q6)
  have LD := Lib.hid (words_len k r6)
  have CA := Lib.hid (fun L hL W T => CW.out x hx6 x rfl L hL W T)
  have CB := Lib.hid (fun L hL W T => CW.out y hy6 y rfl L hL W T)
  have CC := Lib.hid (fun L hL W T => CW.out q q6 q rfl L hL W T)
  have CD := Lib.hid (fun L hL W T => CW.out r r6 r rfl L hL W T)
  have HAB := Lib.hid (show decide (words k x = words k y) = decide (x = y) from by
    by_cases h : x = y
    · rw [h]; simp
    · rw [decide_eq_false h]
      exact decide_eq_false fun e => h (words_inj k hx6 hy6 e))
  have HSP := Lib.hid (show 1000 ≤ x → r ≠ 0 → words k x = words k q ++ words k r from fun h1 h2 => by
    rw [← hq, ← hr]
    exact words_split k h1 (by rw [hr]; exact h2))
  generalize words k x = A at *
  generalize words k y = A2 at *
  generalize words k q = Q at *
  generalize words k r = R at *
  clear T PK PX PY CW hq hr hx hn hm
  go_enter Tryd.func9, Tryd.ntmps9
  go_wp2_with fail
  with_reducible refine Calls.mono (sane_any _ HT.out) ?_
  rintro e w1 ⟨rfl, hb⟩
  replace HT := Lib.hid (HT.out.next hb)
  replace BB := Lib.hid (Below.andThen BB.out hb)
  clear hb
  go_wp2_with fail
  with_reducible refine Calls.mono (HPK.out _) ?_
  rintro e w' ⟨rfl, rfl⟩
  go_wp2_with fail
  with_reducible refine Calls.mono (HPX.out _) ?_
  rintro e w' ⟨rfl, rfl⟩
  go_wp2_with fail
  with_reducible refine Calls.mono (HPY.out _) ?_
  rintro e w' ⟨rfl, rfl⟩
  go_wp2_with fail
  with_reducible refine Calls.mono (CA.out _ (by rfl) _ HT.out) ?_
  rintro e w2 ⟨v, rfl, ho, hb⟩
  replace HT := Lib.hid (HT.out.next hb)
  replace BB := Lib.hid (Below.andThen BB.out hb)
  obtain ⟨oA, cA, rfl, -, -, -, hsl⟩ := ho.form; have SA := Lib.hid hsl; clear ho hsl
  clear hb
  go_wp2_with fail
  with_reducible refine Calls.mono (CB.out _ (by rfl) _ HT.out) ?_
  rintro e w3 ⟨v, rfl, ho, hb⟩
  replace HT := Lib.hid (HT.out.next hb)
  replace SA := Lib.hid (SA.out.next hb)
  replace BB := Lib.hid (Below.andThen BB.out hb)
  obtain ⟨oB, cB, rfl, -, -, -, hsl⟩ := ho.form; have SB := Lib.hid hsl; clear ho hsl
  clear hb
  go_wp2_with fail
  with_reducible refine Calls.mono (CC.out _ (by rfl) _ HT.out) ?_
  rintro e w4 ⟨v, rfl, ho, hb⟩
  replace HT := Lib.hid (HT.out.next hb)
  replace SA := Lib.hid (SA.out.next hb)
  replace SB := Lib.hid (SB.out.next hb)
  replace BB := Lib.hid (Below.andThen BB.out hb)
  obtain ⟨oC, cC, rfl, -, -, ncC, hsl⟩ := ho.form; have SC := Lib.hid hsl; clear ho hsl
  clear hb
  go_wp2_with fail
  with_reducible refine Calls.mono (CD.out _ (by rfl) _ HT.out) ?_
  rintro e w5 ⟨v, rfl, ho, hb⟩
  replace HT := Lib.hid (HT.out.next hb)
  replace SA := Lib.hid (SA.out.next hb)
  replace SB := Lib.hid (SB.out.next hb)
  replace SC := Lib.hid (SC.out.next hb)
  replace BB := Lib.hid (Below.andThen BB.out hb)
  obtain ⟨oD, cD, rfl, -, -, ncD, hsl⟩ := ho.form; have SD := Lib.hid hsl; clear ho hsl
  clear hb
  go_wp2_with fail
  by_cases hxy : x = y
  · have dx : decide (x = y) = true := decide_eq_true hxy
    have di : ((x : Int) == y) = true := by rw [hxy]; simp
    clear hxy
    have CE := Lib.hid (show Calls Tryd.prog 18 #[.slice oA A.length cA, .slice oB A2.length cB] w5 fun e w' => e = .returned (.bool true) ∧ Below w5.heap.size w5 w' from by
      have h := Same_any oA oB A.length cA A2.length cB A A2 w5 rfl rfl (by have := LA.out; omega) (by have := LB.out; omega) SA.out SB.out
      rw [HAB.out, dx] at h
      exact h)
    with_reducible refine Calls.mono (CE.out) ?_
    rintro e w6 ⟨rfl, hb⟩
    replace HT := Lib.hid (HT.out.next hb)
    replace SA := Lib.hid (SA.out.next hb)
    replace SC := Lib.hid (SC.out.next hb)
    replace SD := Lib.hid (SD.out.next hb)
    replace BB := Lib.hid (Below.andThen BB.out hb)
    clear hb
    go_upto_region 13 with (fail)
    by_cases h1 : x < 1000
    · have h1i : (x : Int) < 1000 := by omega
      go_wp2_with fail
      go_ret
      exact ⟨rfl, BB.out⟩
    · have h1i : ¬ (x : Int) < 1000 := by omega
      by_cases h2 : r = 0
      · subst h2
        go_wp2_with fail
        go_ret
        exact ⟨rfl, BB.out⟩
      · have h2i : ((r : Int) == 0) = false := by simp; omega
        have HQR := Lib.hid (HSP.out (by omega) h2)
        have LQ := LC.out
        have LR := LD.out
        go_wp2_with (at_builtin; first
          | (refine wpList_append_strs_g rfl _ _ rfl rfl w6.heap.size (.slice (some ⟨w6.heap.size, 0, none⟩) 0 0) [] rfl (made_own w6 [] (Nat.le_refl _) rfl rfl (by decide)) oC Q.length cC Q rfl rfl ncC (SC.out.next ((Below.refl _ _).alloc (Nat.le_refl _) _)) (by simp; omega) (by simp) ?_; intro V1 w7 ho hg; have HO := Lib.hid ho; have HB7 := Lib.hid (grown_below (Below.refl w6.heap.size w6) hg (made_own w6 [] (Nat.le_refl _) rfl rfl (by decide)).block); clear ho hg)
          | (refine wpList_append_strs_g rfl _ _ rfl rfl w6.heap.size V1 ([] ++ Q) rfl HO.out oD R.length cD R rfl rfl ncD (SD.out.next HB7.out) (by simp; omega) HB7.out.size ?_; intro V2 w8 ho hg; have HO2 := Lib.hid ho; have HB8 := Lib.hid (HB7.out.grown hg HB7.out.size HO.out.block); clear ho hg))
        obtain ⟨o8, c8, rfl, -, -, -, hsl⟩ := HO2.out.form
        have CS := Lib.hid (show Calls Tryd.prog 18 #[.slice oA A.length cA, .slice o8 ([] ++ Q ++ R).length c8] w8 fun e w' => e = .returned (.bool true) ∧ Below w8.heap.size w8 w' from by
          have h := Same_any oA o8 A.length cA ([] ++ Q ++ R).length c8 A ([] ++ Q ++ R) w8 rfl rfl (by have := LA.out; omega) (by simp; omega) (SA.out.next HB8.out) hsl
          rw [decide_eq_true (show A = [] ++ Q ++ R by rw [HQR.out]; simp)] at h
          exact h)
        clear hsl
        with_reducible refine Calls.mono CS.out ?_
        rintro e w9 ⟨rfl, hb⟩
        have HB9 := Lib.hid (Below.andThen BB.out (Below.andThen HB8.out hb))
        clear hb
        go_wp2_with fail
        go_ret
        exact ⟨rfl, HB9.out⟩
  · have dx : decide (x = y) = false := decide_eq_false hxy
    have di : ((x : Int) == y) = false := by simp; omega
    clear hxy
    have CE := Lib.hid (show Calls Tryd.prog 18 #[.slice oA A.length cA, .slice oB A2.length cB] w5 fun e w' => e = .returned (.bool false) ∧ Below w5.heap.size w5 w' from by
      have h := Same_any oA oB A.length cA A2.length cB A A2 w5 rfl rfl (by have := LA.out; omega) (by have := LB.out; omega) SA.out SB.out
      rw [HAB.out, dx] at h
      exact h)
    with_reducible refine Calls.mono (CE.out) ?_
    rintro e w6 ⟨rfl, hb⟩
    replace HT := Lib.hid (HT.out.next hb)
    replace SA := Lib.hid (SA.out.next hb)
    replace SC := Lib.hid (SC.out.next hb)
    replace SD := Lib.hid (SD.out.next hb)
    replace BB := Lib.hid (Below.andThen BB.out hb)
    clear hb
    go_upto_region 13 with (fail)
    by_cases h1 : x < 1000
    · have h1i : (x : Int) < 1000 := by omega
      go_wp2_with fail
      go_ret
      exact ⟨rfl, BB.out⟩
    · have h1i : ¬ (x : Int) < 1000 := by omega
      by_cases h2 : r = 0
      · subst h2
        go_wp2_with fail
        go_ret
        exact ⟨rfl, BB.out⟩
      · have h2i : ((r : Int) == 0) = false := by simp; omega
        have HQR := Lib.hid (HSP.out (by omega) h2)
        have LQ := LC.out
        have LR := LD.out
        go_wp2_with (at_builtin; first
          | (refine wpList_append_strs_g rfl _ _ rfl rfl w6.heap.size (.slice (some ⟨w6.heap.size, 0, none⟩) 0 0) [] rfl (made_own w6 [] (Nat.le_refl _) rfl rfl (by decide)) oC Q.length cC Q rfl rfl ncC (SC.out.next ((Below.refl _ _).alloc (Nat.le_refl _) _)) (by simp; omega) (by simp) ?_; intro V1 w7 ho hg; have HO := Lib.hid ho; have HB7 := Lib.hid (grown_below (Below.refl w6.heap.size w6) hg (made_own w6 [] (Nat.le_refl _) rfl rfl (by decide)).block); clear ho hg)
          | (refine wpList_append_strs_g rfl _ _ rfl rfl w6.heap.size V1 ([] ++ Q) rfl HO.out oD R.length cD R rfl rfl ncD (SD.out.next HB7.out) (by simp; omega) HB7.out.size ?_; intro V2 w8 ho hg; have HO2 := Lib.hid ho; have HB8 := Lib.hid (HB7.out.grown hg HB7.out.size HO.out.block); clear ho hg))
        obtain ⟨o8, c8, rfl, -, -, -, hsl⟩ := HO2.out.form
        have CS := Lib.hid (show Calls Tryd.prog 18 #[.slice oA A.length cA, .slice o8 ([] ++ Q ++ R).length c8] w8 fun e w' => e = .returned (.bool true) ∧ Below w8.heap.size w8 w' from by
          have h := Same_any oA o8 A.length cA ([] ++ Q ++ R).length c8 A ([] ++ Q ++ R) w8 rfl rfl (by have := LA.out; omega) (by simp; omega) (SA.out.next HB8.out) hsl
          rw [decide_eq_true (show A = [] ++ Q ++ R by rw [HQR.out]; simp)] at h
          exact h)
        clear hsl
        with_reducible refine Calls.mono CS.out ?_
        rintro e w9 ⟨rfl, hb⟩
        have HB9 := Lib.hid (Below.andThen BB.out (Below.andThen HB8.out hb))
        clear hb
        go_wp2_with fail
        go_ret
        exact ⟨rfl, HB9.out⟩
namespace wordThousands
set_option maxRecDepth 100000 in
theorem contract (H : Type) (enc : TypeId × Value → H) (W : World) (base : Nat) (args : Array Value) (ds gs : List (DataW H)) (before : List MemPlace)
    (hval : ∀ (j : Nat) t v, Tryd.f9.params[j]? = some t → args[j]? = some v → Value.okWide Tryd.prog W .any base t v)
    (hW : DataW.Whole enc Tryd.prog Tryd.f9.params.toList Rows.wordThousandsSpec.vars false W args.toList ds gs before) (hL : laidMetH Tryd.prog Rows.wordThousandsRow.laid W) (hsh : W.ShapedOpen Tryd.prog) :
    Calls Tryd.prog 9 args W fun e W' => ∃ v, e = .returned v ∧ Rows.wordThousandsSpec.post enc Tryd.prog Tryd.f9 false true false false W args v W' := by
  have hW' := hW
  obtain ⟨p, q, hA0, hV, rfl, hfz, hnd⟩ := hW
  have hA : DataW.TrodAll enc Tryd.prog W 0 (fun _ => true) true Tryd.f9.params.toList args.toList ds p := hA0
  rw [Tryd.params9] at hA hval
  obtain ⟨v0, vs0, d0, ds0, p0, q0, hargs, rfl, rfl, h0, r0⟩ := trodAll_cons hA
  obtain ⟨v1, vs1, d1, ds1, p1, q1, rfl, rfl, rfl, h1, r1⟩ := trodAll_cons r0
  obtain ⟨v2, vs2, d2, ds2, p2, q2, rfl, rfl, rfl, h2, r2⟩ := trodAll_cons r1
  obtain ⟨rfl, rfl, rfl⟩ := trodAll_nil r2
  obtain rfl : args = #[v0, v1, v2] := by cases args; simp_all
  obtain ⟨a0, rfl, rfl, rfl, k0⟩ := open_int Tryd.underlying3 (hval 0 _ _ rfl rfl) h0
  obtain ⟨a1, rfl, rfl, rfl, k1⟩ := open_int Tryd.underlying3 (hval 1 _ _ rfl rfl) h1
  obtain ⟨a2, rfl, rfl, rfl, k2⟩ := open_int Tryd.underlying3 (hval 2 _ _ rfl rfl) h2
  refine (wordThousands_law a0 a1 a2 W (wordT hL hsh) (bd_i64 k0) (bd_i64 k1) (bd_i64 k2)).mono fun e W' ⟨he, hb⟩ => ?_
  subst he
  obtain ⟨rfl, _⟩ := trodVars_none hV
  exact ⟨_, rfl, law_post laidOut (by kernel_rfl) rfl (by kernel_rfl) Tryd.underlying4 hW' rfl hb⟩

noncomputable def laidWorld (os : Os) : World := World.laidAll Tryd.prog os Rows.wordThousandsRow.laid
def args0 : Array Value := #[.int .i64 0, .int .i64 0, .int .i64 0]
theorem laid_met (os : Os) : laidMet Tryd.prog Rows.wordThousandsRow.laid ((laidWorld os).forCall (fun _ _ => 0) ⟨#[], args0, []⟩).memory :=
  laidMet_laidAll _ (by kernel_rfl) (by kernel_rfl)
theorem reads (os : Os) {H : Type} (enc : TypeId × Value → H) : ∃ places, DataW.whole enc Tryd.prog ((laidWorld os).forCall (fun _ _ => 0) ⟨#[], args0, []⟩).memory Tryd.f9.params.toList Rows.wordThousandsSpec.vars false args0.toList 8 = some ([.lit (.int .i64 0), .lit (.int .i64 0), .lit (.int .i64 0)], [], places) :=
  ⟨[], by kernel_rfl⟩

set_option maxRecDepth 100000 in
theorem lifted (os : Os) (started : os.Started) (H : Type) (enc : TypeId × Value → H) (F : Stop.Interp) :
    ReturnsInHanded {} Tryd.checked os 9 .any ((OpenSpec.ofChange Rows.wordThousandsSpec).preRow enc Tryd.prog Tryd.f9 Rows.wordThousandsRow.domain false Rows.wordThousandsRow.laid) (((OpenSpec.ofChange Rows.wordThousandsSpec).at F).post enc Tryd.prog Tryd.f9 false true false false) := by
  obtain ⟨places, hx⟩ := reads os enc
  refine returnsInHanded_of_row (C := Tryd.checked) (s := OpenSpec.ofChange Rows.wordThousandsSpec) own started (by kernel_rfl) Tryd.func9
    (witness_row_at (enc := enc) (C := Tryd.checked) false (laidWorld os) args0 (World.laidAll_os _ _ _) (by kernel_rfl) (by kernel_rfl) (by kernel_rfl)
      (OpenSpec.preRow_of_cond 8 hx (by kernel_rfl) (fun k hk => by cases hk) (by kernel_rfl) (laid_met os))) ?_
  intro W base args ds gs before hval hW _ _ _ hL hsh _
  exact contract H enc W base args ds gs before hval hW hL hsh

theorem said : Rows.WordThousandsSaid :=
  OpenClaim.holds_of_cond 9 Tryd.f9 rfl rfl rfl rfl rfl rfl rfl ⟨rfl, rfl, rfl, rfl, rfl⟩ rfl rfl rfl rfl rfl (by kernel_rfl) Tryd.func9 (by kernel_rfl)
    (of_decide_eq_true (by kernel_rfl)) (by unfold Func.isWrapper; first | (rw [if_pos (by decide +kernel)]; kernel_rfl) | (rw [if_neg (by decide +kernel)]; exact ⟨rfl, rfl⟩))
    (fun os started H enc _ F => by rw [OpenClaim.pre_eq_preRow]; exact lifted os started H enc F)

theorem plain (f : FuncId) (fn : Func) (hf : Tryd.pinned.checked.prog.funcNamed "newswire/newswirelaw11.WordThousands" = some f) (hfn : Tryd.pinned.checked.prog.funcs[f]? = some fn) :
    false = Tryd.pinned.checked.prog.looks [] ∧ ∀ (j : Nat) t, fn.params[j]? = some t → Tryd.pinned.checked.prog.wantsStandIn t = false := by
  obtain rfl : f = 9 := Option.some.inj ((show Tryd.prog.funcNamed "newswire/newswirelaw11.WordThousands" = some 9 by kernel_rfl).symm.trans hf) |>.symm
  obtain rfl : fn = Tryd.f9 := (Option.some.inj (Tryd.func9.symm.trans hfn)).symm
  refine ⟨by kernel_rfl, fun j t ht => ?_⟩
  have all : (Tryd.f9.params.toList.all fun t => Tryd.prog.wantsStandIn t == false) = true := by kernel_rfl
  have := List.all_eq_true.1 all t (by rw [← Array.mem_def]; exact Array.mem_of_getElem? ht)
  exact (show Tryd.prog.wantsStandIn t = false by simpa using this)

/-- The statement. -/
theorem card : Rows.WordThousandsCardSaid :=
  Claim7.holds_tied_plain_at .later [] _ _ _ _ said (fun _ h => by cases h) (by kernel_rfl) (fun _ h => by cases h) wordThousands_row_tie rfl ⟨rfl, rfl⟩ (by kernel_rfl) rfl plain (by kernel_rfl)
end wordThousands
end Go.Proofs.YtebdpdmkehfgfaaDoor
