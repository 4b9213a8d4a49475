/- For every input, DigestExtensionAccepted returns true and leaves its arguments as they were; the rounds' table holds what the program's text lays. -/
import Derived.Test.YtojfblkmhdgjeaaDoorDigB2
import Derived.Test.YtojfblkmhdgjeaaDoorSlices
namespace Go.Proofs.YtojfblkmhdgjeaaDoor
open Go.RowKit Go.ChangeShapes Go.WideShapes Go.ChangeAt

theorem extS_short {xs : List ByteArray} {m : Nat} (hm : m ≤ xs.length) : (extS xs m).length ≤ 2 * binN xs.length := by
  by_cases h0 : m = 0
  · simp [extS, h0]
  · have O := extOk xs.length xs rfl m (by omega) hm
    have h1 := xsN_len (binN xs.length) xs.length m (by omega) (Nat.le_of_lt (binN_lt _))
    have h2 : 1 ≤ binN xs.length := by unfold binN; rw [if_neg (by omega)]; omega
    unfold extS
    rw [if_neg h0, List.length_append, O.len]
    split <;> simp <;> omega
set_option maxRecDepth 100000 in
set_option maxHeartbeats 4000000 in
theorem digestExtension_all (o : Option Addr) (n c : Nat) (S : Nat → ByteArray) (m : Int) (w : World) (T : Tab w) (hn : n ≤ maxLen) (hs : ∀ i, i < n → (S i).size ≤ maxLen)
    (hcell : ∀ i, i < n → ∃ a, o = some a ∧ ∀ w', Below w.heap.size w w' → w'.cell? (a.add i) = some (.string (S i))) (hm : -9223372036854775808 ≤ m ∧ m ≤ 9223372036854775807) :
    Calls Tryd.prog 7 #[.slice o n c, .int .i64 m] w fun r w' => r = .returned (.bool true) ∧ Below w.heap.size w w' := by
  obtain ⟨i0, hi0, hz0, hz1, hz2⟩ := info_parts infoStr
  have HT := Lib.hid T
  have HT0 := Lib.hid T
  have BB := Lib.hid (Below.refl w.heap.size w)
  have CF := Lib.hid (fun w' (hb : Below w.heap.size w w') => few_any o n c 25 S w' (by decide) hn hs (fun i hi => by
    obtain ⟨a, e, h⟩ := hcell i hi
    exact ⟨a, e, fun w2 hb2 => h w2 (Below.andThen hb hb2)⟩))
  clear T hcell hs
  go_enter Tryd.func7, Tryd.ntmps7
  go_wp2_with fail
  with_reducible refine Calls.mono (sane_any _ HT.out) ?_
  rintro e w1 ⟨rfl, hb⟩
  replace HT := Lib.hid (HT.out.next hb)
  replace BB := Lib.hid (Below.andThen BB.out hb)
  clear hb
  go_wp2_with fail
  with_reducible refine Calls.mono (CF.out _ BB.out) ?_
  rintro e w2 ⟨v, rfl, hown, hb⟩
  replace HT := Lib.hid (HT.out.next hb)
  replace BB := Lib.hid (Below.andThen BB.out hb)
  clear CF hb
  obtain ⟨xs, hxs⟩ : ∃ xs, xs = fewS S (min n 25) := ⟨_, rfl⟩
  have hxl : xs.length ≤ 25 := by rw [hxs, fewS_length]; omega
  have hsm : ∀ x ∈ xs, x.size ≤ 60 := by rw [hxs]; exact fewS_small S _
  rw [← hxs] at hown
  obtain ⟨vo, vc, rfl, v1, v2, v3⟩ := hown.form
  have HX := Lib.hid hown.sl
  have HP0 := hown.parts
  unfold maxLen at v2
  obtain ⟨N, hN⟩ : ∃ N, xs.length = N := ⟨_, rfl⟩
  rw [hN] at hxl v1 ⊢
  have HP := Lib.hid (show (vo = none ∧ vc = 0 ∧ N = 0) ∨ ∃ g, vo = some ⟨g, 0, none⟩ by
    rcases HP0 with ⟨h1, h2, h3⟩ | ⟨g, h, _⟩
    · exact .inl ⟨h1, h2, by rw [← hN, h3]; rfl⟩
    · exact .inr ⟨g, h⟩)
  clear hxs hown v3 HP0
  have CR := Lib.hid (fun w' (T' : Tab w') (h : StrSl w' vo xs) => Root_any N xs vo vc w' hN T' h v1 v2 (fun x h => by have := hsm x h; omega))
  have HSM := Lib.hid hsm
  have HN := Lib.hid hN
  obtain ⟨r, hr⟩ : ∃ r, r = rootS xs := ⟨_, rfl⟩
  rw [← hr] at CR
  have HR := Lib.hid hr
  clear hsm hr hN
  go_wp2_with fail
  with_reducible refine Calls.mono (CR.out _ HT.out HX.out) ?_
  rintro e w3 ⟨rfl, hb⟩
  replace HT := Lib.hid (HT.out.next hb)
  replace HX := Lib.hid (HX.out.next hb)
  replace BB := Lib.hid (Below.andThen BB.out hb)
  clear hb
  go_wp2_with fail
  go_loopw [7] (fun i wr => ∃ k : Nat, k ≤ N + 1 ∧ i = .int .i64 k ∧ Below w3.heap.size w3 wr) (fun i _ => N + 1 - (intOf i).toNat)
  case atStart => exact ⟨0, Nat.zero_le _, rfl, Below.refl _ _⟩
  case round =>
    obtain ⟨k, hk, rfl, hB⟩ := hrel
    replace HT := Lib.hid (HT.out.next hB)
    replace HX := Lib.hid (HX.out.next hB)
    by_cases hlt : k ≤ N
    · have hel := extS_short (xs := xs) (m := k) (by rw [HN.out]; exact hlt)
      have hel2 := extS_len (xs := xs) (m := k) (k := 6) (by rw [HN.out]; exact hlt) (by rw [HN.out]; omega)
      have BB2 := BB
      have BB := Lib.hid hB
      have CE := Lib.hid (fun w' (T' : Tab w') (h : StrSl w' vo xs) => Extension_in xs vo vc k w' T' h (by rw [HN.out]; exact v1) v2 (by rw [HN.out]; omega) (fun x h => by have := HSM.out x h; omega) (by rw [HN.out]; exact hlt))
      have CK := Lib.hid (fun w' (T' : Tab w') (h : StrSl w' vo xs) => Root_any k (xs.take k) vo vc w' (by rw [List.length_take, HN.out]; omega) T' (take_sl k h) (by omega) v2 (fun x h => by have := HSM.out x (List.mem_of_mem_take h); omega))
      have CV := Lib.hid (fun eo w' (T' : Tab w') (h : StrSl w' eo (extS xs k)) => VerExt_all (rootS (xs.take k)) (rootS xs) k xs.length eo (extS xs k).length (extS xs k) w' T' (by rw [HN.out]; omega) h (by omega) (Nat.le_refl _))
      rw [extS_ok xs k (by rw [HN.out]; exact hlt)] at CV
      have CB := Lib.hid (fun w => binary_any N w (by omega))
      rw [HN.out] at CE CV hel
      rw [← HR.out] at CV
      generalize (extS xs k).length = EL at *
      generalize rootS (xs.take k) = rk at *
      have hbl : binN N ≤ 64 := by
        unfold binN
        split
        · decide
        · have := (Nat.log2_lt (n := N) (k := 60) (by assumption)).2 (by omega)
          omega
      generalize binN N = bn at *
      have d1 : decide (2 * (bn : Int) < EL) = false := by simp; omega
      obtain ⟨kz, hkz⟩ : ∃ kz : Int, (k : Int) = kz := ⟨_, rfl⟩
      rw [hkz] at CE CV
      clear hB
      rcases HP.out with ⟨rfl, rfl, rfl⟩ | ⟨g, rfl⟩
      · obtain rfl : k = 0 := by omega
        obtain rfl : kz = 0 := by omega
        have CB0 := Lib.hid (show ∀ w, Calls Tryd.prog 33 #[.int .i64 0] w fun e w' => e = .returned (.int .i64 bn) ∧ w = w' from CB.out)
        have CV0 := Lib.hid (show ∀ eo w', Tab w' → StrSl w' eo (extS xs 0) → Calls Tryd.prog 31 #[.string rk, .int .i64 0, .string r, .int .i64 0, .slice eo EL EL] w' fun e w'' => e = .returned (.bool true) ∧ Below w'.heap.size w' w'' from CV.out)
        go_wp2_with fail
        with_reducible refine Calls.mono (CE.out _ HT.out HX.out) ?_
        rintro e w5 ⟨eo, rfl, hE, hb⟩
        replace HT := Lib.hid (HT.out.next hb)
        replace HX := Lib.hid (HX.out.next hb)
        replace BB := Lib.hid (Below.andThen BB.out hb)
        have HE := Lib.hid hE; clear hE
        clear hb
        go_wp2_with fail
        with_reducible refine Calls.mono (CB0.out _) ?_
        rintro e w6 ⟨rfl, rfl⟩
        go_wp2_with fail
        with_reducible refine Calls.mono (CK.out _ HT.out HX.out) ?_
        rintro e w6 ⟨rfl, hb⟩
        replace HT := Lib.hid (HT.out.next hb)
        replace HX := Lib.hid (HX.out.next hb)
        replace HE := Lib.hid (HE.out.next hb)
        replace BB := Lib.hid (Below.andThen BB.out hb)
        clear hb
        go_wp2_with fail
        with_reducible refine Calls.mono (CV0.out _ _ HT.out HE.out) ?_
        rintro e w7 ⟨rfl, hb⟩
        replace HT := Lib.hid (HT.out.next hb)
        replace HX := Lib.hid (HX.out.next hb)
        replace HE := Lib.hid (HE.out.next hb)
        replace BB := Lib.hid (Below.andThen BB.out hb)
        clear hb
        go_wp2_with fail
        refine ⟨⟨1, by omega, rfl, BB.out⟩, by simp [intOf]⟩
      · subst hkz
        go_wp2_with fail
        with_reducible refine Calls.mono (CE.out _ HT.out HX.out) ?_
        rintro e w5 ⟨eo, rfl, hE, hb⟩
        replace HT := Lib.hid (HT.out.next hb)
        replace HX := Lib.hid (HX.out.next hb)
        replace BB := Lib.hid (Below.andThen BB.out hb)
        have HE := Lib.hid hE; clear hE
        clear hb
        go_wp2_with fail
        with_reducible refine Calls.mono (CB.out _) ?_
        rintro e w6 ⟨rfl, rfl⟩
        go_wp2_with fail
        with_reducible refine Calls.mono (CK.out _ HT.out HX.out) ?_
        rintro e w6 ⟨rfl, hb⟩
        replace HT := Lib.hid (HT.out.next hb)
        replace HX := Lib.hid (HX.out.next hb)
        replace HE := Lib.hid (HE.out.next hb)
        replace BB := Lib.hid (Below.andThen BB.out hb)
        clear hb
        go_wp2_with fail
        with_reducible refine Calls.mono (CV.out _ _ HT.out HE.out) ?_
        rintro e w7 ⟨rfl, hb⟩
        replace HT := Lib.hid (HT.out.next hb)
        replace HX := Lib.hid (HX.out.next hb)
        replace HE := Lib.hid (HE.out.next hb)
        replace BB := Lib.hid (Below.andThen BB.out hb)
        clear hb
        go_wp2_with fail
        refine ⟨⟨k + 1, by omega, by go_num, BB.out⟩, by simp [intOf]; omega⟩
    · obtain rfl : k = N + 1 := by omega
      replace BB := Lib.hid (Below.andThen BB.out hB)
      have d2 : decide ((N : Int) + 1 ≤ N) = false := by simp; omega
      clear hB hlt
      by_cases hin : 0 ≤ m ∧ m ≤ N
      · obtain ⟨j, rfl⟩ : ∃ j : Nat, m = j := ⟨m.toNat, by omega⟩
        have d3 : decide (j ≤ N) = true := by simp; omega
        have d3' : j ≤ N := by omega
        have CE := Lib.hid (fun w' (T' : Tab w') (h : StrSl w' vo xs) => Extension_in xs vo vc j w' T' h (by rw [HN.out]; exact v1) v2 (by rw [HN.out]; omega) (fun x h => by have := HSM.out x h; omega) (by rw [HN.out]; omega))
        rw [HN.out] at CE
        clear hin hm
        go_wp2_with fail
        with_reducible refine Calls.mono (CE.out _ HT.out HX.out) ?_
        rintro e w5 ⟨eo, rfl, hE, hb⟩
        replace HT := Lib.hid (HT.out.next hb)
        replace HX := Lib.hid (HX.out.next hb)
        replace BB := Lib.hid (Below.andThen BB.out hb)
        have HE := Lib.hid hE; clear hE
        clear hb
        go_wp2_with fail
        go_ret
        exact ⟨rfl, BB.out⟩
      · have CE := Lib.hid (fun w' => Extension_out vo N vc m w' (by omega))
        have CV := Lib.hid (fun w' (T' : Tab w') => VerExt_all r r m N none 0 [] w' T' (by omega) (.inl rfl) (by simp) (by simp))
        have e : verExtS r m r N [] = false := by
          unfold verExtS
          by_cases h : 0 ≤ m
          · rw [decide_eq_false (show ¬ m ≤ (N : Int) by omega)]; simp
          · rw [decide_eq_false h]; rfl
        rw [e] at CV
        clear e
        by_cases h0 : 0 ≤ m
        · have d3 : decide (0 ≤ m) = true := by simpa using h0
          have d4 : decide (m ≤ (N : Int)) = false := by simp; omega
          clear hin h0
          go_wp2_with fail
          with_reducible refine Calls.mono (CE.out _) ?_
          rintro e w5 ⟨rfl, rfl⟩
          go_wp2_with fail
          with_reducible refine Calls.mono (CV.out _ HT.out) ?_
          rintro e w6 ⟨rfl, hb⟩
          replace HT := Lib.hid (HT.out.next hb)
          replace HX := Lib.hid (HX.out.next hb)
          replace BB := Lib.hid (Below.andThen BB.out hb)
          clear hb
          go_wp2_with fail
          go_ret
          exact ⟨rfl, BB.out⟩
        · have d3 : decide (0 ≤ m) = false := by simpa using h0
          clear hin h0
          go_wp2_with fail
          with_reducible refine Calls.mono (CE.out _) ?_
          rintro e w5 ⟨rfl, rfl⟩
          go_wp2_with fail
          with_reducible refine Calls.mono (CV.out _ HT.out) ?_
          rintro e w6 ⟨rfl, hb⟩
          replace HT := Lib.hid (HT.out.next hb)
          replace HX := Lib.hid (HX.out.next hb)
          replace BB := Lib.hid (Below.andThen BB.out hb)
          clear hb
          go_wp2_with fail
          go_ret
          exact ⟨rfl, BB.out⟩

theorem digestExtension_law (o : Option Addr) (n c : Nat) (S : Nat → ByteArray) (m : Int) (w : World) (T : Tab w) (hn : n ≤ maxLen) (hs : ∀ i, i < n → (S i).size ≤ maxLen)
    (hcell : ∀ i, i < n → ∃ a, o = some a ∧ ∀ w', Below w.heap.size w w' → w'.cell? (a.add i) = some (.string (S i))) (hm : -9223372036854775808 ≤ m ∧ m ≤ 9223372036854775807) :
    Calls Tryd.prog 7 #[.slice o n c, .int .i64 m] w fun r w' => r = .returned (.bool true) ∧ Below w.heap.size w w' := digestExtension_all o n c S m w T hn hs hcell hm
namespace digestExtensionAccepted
set_option maxRecDepth 100000 in
theorem contract (H : Type) (enc : TypeId × Value → H) (W : World) (base : Nat) (args : Array Value) (ds gs : List (DataW H)) (before : List MemPlace)
    (hval : ∀ (j : Nat) t v, Tryd.f7.params[j]? = some t → args[j]? = some v → Value.okWide Tryd.prog W .any base t v)
    (hW : DataW.Whole enc Tryd.prog Tryd.f7.params.toList Rows.digestExtensionAcceptedSpec.vars false W args.toList ds gs before) (hL : laidMetH Tryd.prog Rows.digestExtensionAcceptedRow.laid W) :
    Calls Tryd.prog 7 args W fun e W' => ∃ v, e = .returned v ∧ Rows.digestExtensionAcceptedSpec.post enc Tryd.prog Tryd.f7 false true false false W args v W' := by
  have hW' := hW
  obtain ⟨p, q, hA0, hV, rfl, hfz, hnd⟩ := hW
  have hA : DataW.TrodAll enc Tryd.prog W 0 (fun _ => true) true Tryd.f7.params.toList args.toList ds p := hA0
  rw [Tryd.params7] at hA hval
  obtain ⟨v0, vs0, d0, ds0, p0, q0, hargs, rfl, rfl, h0, r0⟩ := trodAll_cons hA
  obtain ⟨v1, vs1, d1, ds1, p1, q1, rfl, rfl, rfl, h1, r1⟩ := trodAll_cons r0
  obtain ⟨rfl, rfl, rfl⟩ := trodAll_nil r1
  obtain rfl : args = #[v0, v1] := by cases args; simp_all
  obtain ⟨oa0, la0, ca0, a0, rfl, ma0, k0, ga0⟩ := open_strS Tryd.underlying26 Tryd.underlying9 (by kernel_rfl) (hval 0 _ _ rfl rfl) h0
  obtain ⟨a1, rfl, rfl, rfl, k1⟩ := open_int Tryd.underlying3 (hval 1 _ _ rfl rfl) h1
  refine (digestExtension_law oa0 la0 ca0 a0 a1 W (tab hL) ma0 k0 ga0 (bd_i64 k1)).mono fun e W' ⟨he, hb⟩ => ?_
  subst he
  obtain ⟨rfl, _⟩ := trodVars_none hV
  exact ⟨_, rfl, law_post laidOut (by kernel_rfl) rfl (by kernel_rfl) Tryd.underlying4 hW' rfl hb⟩

def args0 : Array Value := #[.slice none 0 0, .int .i64 0]
theorem laid_met (os : Os) : laidMet Tryd.prog Rows.digestExtensionAcceptedRow.laid ((laidWorld os).forCall (fun _ _ => 0) ⟨#[], args0, []⟩).memory :=
  laidMet_of_run' 8 (by kernel_rfl) (by kernel_rfl)
theorem reads (os : Os) {H : Type} (enc : TypeId × Value → H) : ∃ places, DataW.whole enc Tryd.prog ((laidWorld os).forCall (fun _ _ => 0) ⟨#[], args0, []⟩).memory Tryd.f7.params.toList Rows.digestExtensionAcceptedSpec.vars false args0.toList 8 = some ([.nil, .lit (.int .i64 0)], [], places) :=
  ⟨[], by kernel_rfl⟩

set_option maxRecDepth 100000 in
theorem lifted (os : Os) (started : os.Started) (H : Type) (enc : TypeId × Value → H) (F : Stop.Interp) :
    ReturnsInHanded {} Tryd.checked os 7 .any ((OpenSpec.ofChange Rows.digestExtensionAcceptedSpec).preRow enc Tryd.prog Tryd.f7 Rows.digestExtensionAcceptedRow.domain false Rows.digestExtensionAcceptedRow.laid) (((OpenSpec.ofChange Rows.digestExtensionAcceptedSpec).at F).post enc Tryd.prog Tryd.f7 false true false false) := by
  obtain ⟨places, hx⟩ := reads os enc
  refine returnsInHanded_of_row (C := Tryd.checked) (s := OpenSpec.ofChange Rows.digestExtensionAcceptedSpec) own started (by kernel_rfl) Tryd.func7
    (witness_row_at (enc := enc) (C := Tryd.checked) false (laidWorld os) args0 rfl (by kernel_rfl) (by kernel_rfl) (by kernel_rfl)
      (OpenSpec.preRow_of_cond 8 hx (by kernel_rfl) (fun k hk => by cases hk) (by kernel_rfl) (laid_met os))) ?_
  intro W base args ds gs before hval hW _ _ _ hL _ _
  exact contract H enc W base args ds gs before hval hW hL

theorem said : Rows.DigestExtensionAcceptedSaid :=
  OpenClaim.holds_of_cond 7 Tryd.f7 rfl rfl rfl rfl rfl rfl rfl ⟨rfl, rfl, rfl, rfl, rfl⟩ rfl rfl rfl rfl rfl (by kernel_rfl) Tryd.func7 (by kernel_rfl)
    (of_decide_eq_true (by kernel_rfl)) (by unfold Func.isWrapper; first | (rw [if_pos (by decide +kernel)]; kernel_rfl) | (rw [if_neg (by decide +kernel)]; exact ⟨rfl, rfl⟩))
    (fun os started H enc _ F => by rw [OpenClaim.pre_eq_preRow]; exact lifted os started H enc F)

theorem plain (f : FuncId) (fn : Func) (hf : Tryd.pinned.checked.prog.funcNamed "newswire/newswirelaw02.DigestExtensionAccepted" = some f) (hfn : Tryd.pinned.checked.prog.funcs[f]? = some fn) :
    false = Tryd.pinned.checked.prog.looks [] ∧ ∀ (j : Nat) t, fn.params[j]? = some t → Tryd.pinned.checked.prog.wantsStandIn t = false := by
  obtain rfl : f = 7 := Option.some.inj ((show Tryd.prog.funcNamed "newswire/newswirelaw02.DigestExtensionAccepted" = some 7 by kernel_rfl).symm.trans hf) |>.symm
  obtain rfl : fn = Tryd.f7 := (Option.some.inj (Tryd.func7.symm.trans hfn)).symm
  refine ⟨by kernel_rfl, fun j t ht => ?_⟩
  have all : (Tryd.f7.params.toList.all fun t => Tryd.prog.wantsStandIn t == false) = true := by kernel_rfl
  have := List.all_eq_true.1 all t (by rw [← Array.mem_def]; exact Array.mem_of_getElem? ht)
  exact (show Tryd.prog.wantsStandIn t = false by simpa using this)

/-- The statement. -/
theorem card : Rows.DigestExtensionAcceptedCardSaid :=
  Claim7.holds_tied_plain_at .later [] _ _ _ _ said (fun _ h => by cases h) (by kernel_rfl) (fun _ h => by cases h) digestExtensionAccepted_row_tie rfl ⟨rfl, rfl⟩ (by kernel_rfl) rfl plain (by kernel_rfl)
end digestExtensionAccepted
end Go.Proofs.YtojfblkmhdgjeaaDoor
