/- For every input, DigestTreeMatchesReference returns true and leaves its argument as it was; the rounds' table holds what the program's text lays. -/
import Derived.Test.YtojfblkmhdgjeaaDoorDigRE
import Derived.Test.YtojfblkmhdgjeaaDoorDigY2
namespace Go.Proofs.YtojfblkmhdgjeaaDoor
open Go.RowKit Go.ChangeShapes Go.WideShapes Go.ChangeAt

/-! ### proofs and extensions at every index -/
def prfS (xs : List ByteArray) (i : Int) : List ByteArray := if 0 ≤ i ∧ i < xs.length then proofS xs i.toNat else []
def prfE (xs : List ByteArray) (i : Int) : Int := if 0 ≤ i ∧ i < xs.length then 0 else 2
def extZ (xs : List ByteArray) (m : Int) : List ByteArray := if 0 ≤ m ∧ m ≤ xs.length then extS xs m.toNat else []
def extE (xs : List ByteArray) (m : Int) : Int := if 0 ≤ m ∧ m ≤ xs.length then 0 else 2
theorem prfS_len (xs : List ByteArray) (i : Int) : (prfS xs i).length ≤ xs.length := by
  unfold prfS
  split
  · rw [proofS_len]
    exact sidesN_len _ _ _ (Nat.le_of_lt Nat.lt_two_pow_self)
  · simp
theorem extZ_len (xs : List ByteArray) (i : Int) : (extZ xs i).length ≤ xs.length + 1 := by
  unfold extZ
  split
  · exact extS_len (by omega) (Nat.le_of_lt Nat.lt_two_pow_self)
  · simp
/-- a slice of strings and an error number are returned -/
def ListOut (w : World) (P : List ByteArray) (E : Int) (e : Ending) (w' : World) : Prop := ∃ o c, e = .returned (.tuple #[.slice o P.length c, .int .i64 E]) ∧ StrSl w' o P ∧ Below w.heap.size w w'
theorem listOut_nil (w : World) (E : Int) : ListOut w [] E (.returned (.tuple #[.slice none 0 0, .int .i64 E])) w := ⟨none, 0, rfl, .inl rfl, Below.refl _ _⟩
theorem listOut_own {w w' : World} {P : List ByteArray} {v : Value} {E : Int} (h : OwnS w' w.heap.size v P) (hb : Below w.heap.size w w') : ListOut w P E (.returned (.tuple #[v, .int .i64 E])) w' := by
  obtain ⟨o, c, rfl, _⟩ := h.form
  exact ⟨o, c, rfl, h.sl, hb⟩
section
variable (xs : List ByteArray) (o : Option Addr) (c : Nat) (i : Int) (w : World) (hS : StrSl w o xs) (hN : xs.length ≤ c) (hc : c ≤ 9223372036854775807) (hxs : xs.length ≤ 2 ^ 30) (hx : ∀ x ∈ xs, x.size ≤ 2 ^ 38)
include hS hN hc hxs hx
theorem Proof_each (T : Tab w) : Calls Tryd.prog 22 #[.slice o xs.length c, .int .i64 i] w (ListOut w (prfS xs i) (prfE xs i)) := by
  unfold prfS prfE
  by_cases h : 0 ≤ i ∧ i < xs.length
  · obtain ⟨k, rfl⟩ := Int.eq_ofNat_of_zero_le h.1
    rw [if_pos h, if_pos h, Int.toNat_natCast]
    refine (Proof_any xs o c k w T hS hN hc (by omega) hx (by omega)).mono ?_
    rintro e w' ⟨o', rfl, h1, h2⟩
    exact ⟨o', _, rfl, h1, h2⟩
  · rw [if_neg h, if_neg h]
    refine (Proof_out o xs.length c i w (by omega)).mono ?_
    rintro e w' ⟨rfl, rfl⟩
    exact listOut_nil _ _
theorem refProof_each : Calls Tryd.prog 23 #[.slice o xs.length c, .int .i64 i] w (ListOut w (prfS xs i) (prfE xs i)) := by
  unfold prfS prfE
  by_cases h : 0 ≤ i ∧ i < xs.length
  · obtain ⟨k, rfl⟩ := Int.eq_ofNat_of_zero_le h.1
    rw [if_pos h, if_pos h, Int.toNat_natCast]
    refine (refProof_any xs.length xs o c k w rfl (by omega) hxs hS hN hc hx).mono ?_
    rintro e w' ⟨v, rfl, h1, h2⟩
    exact listOut_own h1 h2
  · rw [if_neg h, if_neg h]
    refine (refProof_out o xs.length c i w (by omega)).mono ?_
    rintro e w' ⟨rfl, rfl⟩
    exact listOut_nil _ _
theorem Extension_each (T : Tab w) : Calls Tryd.prog 24 #[.slice o xs.length c, .int .i64 i] w (ListOut w (extZ xs i) (extE xs i)) := by
  unfold extZ extE
  by_cases h : 0 ≤ i ∧ i ≤ xs.length
  · obtain ⟨k, rfl⟩ := Int.eq_ofNat_of_zero_le h.1
    rw [if_pos h, if_pos h, Int.toNat_natCast]
    refine (Extension_in xs o c k w T hS hN hc (by omega) hx (by omega)).mono ?_
    rintro e w' ⟨o', rfl, h1, h2⟩
    exact ⟨o', _, rfl, h1, h2⟩
  · rw [if_neg h, if_neg h]
    refine (Extension_out o xs.length c i w (by omega)).mono ?_
    rintro e w' ⟨rfl, rfl⟩
    exact listOut_nil _ _
theorem refExtension_each : Calls Tryd.prog 25 #[.slice o xs.length c, .int .i64 i] w (ListOut w (extZ xs i) (extE xs i)) := by
  unfold extZ extE
  by_cases h : 0 ≤ i ∧ i ≤ xs.length
  · obtain ⟨k, rfl⟩ := Int.eq_ofNat_of_zero_le h.1
    rw [if_pos h, if_pos h, Int.toNat_natCast]
    refine (refExtension_in xs o c k w hS hN hc hxs hx (by omega)).mono ?_
    rintro e w' ⟨v, rfl, h1, h2⟩
    exact listOut_own h1 h2
  · rw [if_neg h, if_neg h]
    refine (refExtension_out o xs.length c i w (by omega)).mono ?_
    rintro e w' ⟨rfl, rfl⟩
    exact listOut_nil _ _
end

set_option maxRecDepth 100000 in
set_option maxHeartbeats 4000000 in
theorem digestTree_all (o : Option Addr) (pn pc : Nat) (S : Nat → ByteArray) (i m : Int) (w : World) (T : Tab w)
    (hpn : pn ≤ maxLen) (hps : ∀ i, i < pn → (S i).size ≤ maxLen) (hpc : ∀ i, i < pn → ∃ a, o = some a ∧ ∀ w', Below w.heap.size w w' → w'.cell? (a.add i) = some (.string (S i))) :
    Calls Tryd.prog 4 #[.slice o pn pc, .int .i64 i, .int .i64 m] w fun r w' => r = .returned (.bool true) ∧ Below w.heap.size w w' := by
  have HT := Lib.hid T
  have BB := Lib.hid (Below.refl w.heap.size w)
  have CF := Lib.hid (fun w' (hb : Below w.heap.size w w') => few_any o pn pc 40 S w' (by decide) hpn hps (fun i hi => by
    obtain ⟨a, e, h⟩ := hpc i hi
    exact ⟨a, e, fun w2 hb2 => h w2 (Below.andThen hb hb2)⟩))
  clear T hpc hps hpn
  go_enter Tryd.func4, Tryd.ntmps4
  go_wp2_with fail
  with_reducible refine Calls.mono (sane_any _ HT.out) ?_
  rintro e w1 ⟨rfl, hb⟩
  replace HT := Lib.hid (HT.out.next hb)
  replace BB := Lib.hid (Below.andThen BB.out hb)
  clear hb
  go_wp2_with fail
  with_reducible refine Calls.mono (CF.out _ BB.out) ?_
  rintro e w2 ⟨v, rfl, hown, hb⟩
  replace HT := Lib.hid (HT.out.next hb)
  replace BB := Lib.hid (Below.andThen BB.out hb)
  clear CF hb
  obtain ⟨xs, hxs⟩ : ∃ xs, xs = fewS S (min pn 40) := ⟨_, rfl⟩
  have hxl : xs.length ≤ 40 := by rw [hxs, fewS_length]; omega
  have hxm : ∀ x ∈ xs, x.size ≤ 60 := by rw [hxs]; exact fewS_small S _
  rw [← hxs] at hown
  obtain ⟨vo, vc, rfl, v1, v2, v3⟩ := hown.form
  have HX := Lib.hid hown.sl
  unfold maxLen at v2
  have hx38 : ∀ x ∈ xs, x.size ≤ 2 ^ 38 := fun x h => by have := hxm x h; omega
  have D1 := Lib.hid (fun W (T' : Tab W) (h : StrSl W vo xs) => Proof_each xs vo vc i W h v1 v2 (by omega) hx38 T')
  have D2 := Lib.hid (fun W (h : StrSl W vo xs) => refProof_each xs vo vc i W h v1 v2 (by omega) hx38)
  have D3 := Lib.hid (fun W (T' : Tab W) (h : StrSl W vo xs) => Extension_each xs vo vc m W h v1 v2 (by omega) hx38 T')
  have D4 := Lib.hid (fun W (h : StrSl W vo xs) => refExtension_each xs vo vc m W h v1 v2 (by omega) hx38)
  have D5 := Lib.hid (fun W (T' : Tab W) (h : StrSl W vo xs) => Root_any xs.length xs vo vc W rfl T' h v1 v2 hx38)
  have D6 := Lib.hid (fun W (h : StrSl W vo xs) => refRoot_any xs.length xs vo vc W rfl h v1 v2 hx38)
  have l1 := prfS_len xs i
  have l2 := extZ_len xs m
  have CS1 := Lib.hid (fun o o' c c' W (h : StrSl W o (prfS xs i)) (h' : StrSl W o' (prfS xs i)) => Same_any (prfS xs i) (prfS xs i) o o' c c' W h h' (by omega) (by omega))
  have CS2 := Lib.hid (fun o o' c c' W (h : StrSl W o (extZ xs m)) (h' : StrSl W o' (extZ xs m)) => Same_any (extZ xs m) (extZ xs m) o o' c c' W h h' (by omega) (by omega))
  rw [decide_eq_true rfl] at CS1 CS2
  unfold ListOut at D1 D2 D3 D4
  clear l1 l2 hxs hown v1 v2 v3 hxm hx38
  generalize prfS xs i = P at *
  generalize prfE xs i = E1 at *
  generalize extZ xs m = Q at *
  generalize extE xs m = E2 at *
  generalize rootS xs = R at *
  generalize P.length = PL at *
  generalize Q.length = QL at *
  generalize xs.length = N at *
  go_wp2_with fail
  with_reducible refine Calls.mono (D1.out _ HT.out HX.out) ?_
  rintro e w3 ⟨p1, q1, rfl, hA, hb⟩
  replace HT := Lib.hid (HT.out.next hb)
  replace HX := Lib.hid (HX.out.next hb)
  replace BB := Lib.hid (Below.andThen BB.out hb)
  have HA := Lib.hid hA; clear hA
  clear hb
  go_wp2_with fail
  with_reducible refine Calls.mono (D2.out _ HX.out) ?_
  rintro e w4 ⟨p2, q2, rfl, hA2, hb⟩
  replace HT := Lib.hid (HT.out.next hb)
  replace HX := Lib.hid (HX.out.next hb)
  replace HA := Lib.hid (HA.out.next hb)
  replace BB := Lib.hid (Below.andThen BB.out hb)
  have HB := Lib.hid hA2; clear hA2
  clear hb
  go_wp2_with fail
  with_reducible refine Calls.mono (D3.out _ HT.out HX.out) ?_
  rintro e w5 ⟨p3, q3, rfl, hA3, hb⟩
  replace HT := Lib.hid (HT.out.next hb)
  replace HX := Lib.hid (HX.out.next hb)
  replace HA := Lib.hid (HA.out.next hb)
  replace HB := Lib.hid (HB.out.next hb)
  replace BB := Lib.hid (Below.andThen BB.out hb)
  have HC := Lib.hid hA3; clear hA3
  clear hb
  go_wp2_with fail
  with_reducible refine Calls.mono (D4.out _ HX.out) ?_
  rintro e w6 ⟨p4, q4, rfl, hA4, hb⟩
  replace HT := Lib.hid (HT.out.next hb)
  replace HX := Lib.hid (HX.out.next hb)
  replace HA := Lib.hid (HA.out.next hb)
  replace HB := Lib.hid (HB.out.next hb)
  replace HC := Lib.hid (HC.out.next hb)
  replace BB := Lib.hid (Below.andThen BB.out hb)
  have HD := Lib.hid hA4; clear hA4
  clear hb
  go_wp2_with fail
  with_reducible refine Calls.mono (CS1.out _ _ _ _ _ HA.out HB.out) ?_
  rintro e w7 ⟨rfl, hb⟩
  replace HT := Lib.hid (HT.out.next hb)
  replace HX := Lib.hid (HX.out.next hb)
  replace HC := Lib.hid (HC.out.next hb)
  replace HD := Lib.hid (HD.out.next hb)
  replace BB := Lib.hid (Below.andThen BB.out hb)
  clear hb
  go_wp2_with fail
  with_reducible refine Calls.mono (CS2.out _ _ _ _ _ HC.out HD.out) ?_
  rintro e w8 ⟨rfl, hb⟩
  replace HT := Lib.hid (HT.out.next hb)
  replace HX := Lib.hid (HX.out.next hb)
  replace BB := Lib.hid (Below.andThen BB.out hb)
  clear hb
  go_wp2_with fail
  with_reducible refine Calls.mono (D5.out _ HT.out HX.out) ?_
  rintro e w9 ⟨rfl, hb⟩
  replace HT := Lib.hid (HT.out.next hb)
  replace HX := Lib.hid (HX.out.next hb)
  replace BB := Lib.hid (Below.andThen BB.out hb)
  clear hb
  go_wp2_with fail
  with_reducible refine Calls.mono (D6.out _ HX.out) ?_
  rintro e w10 ⟨rfl, hb⟩
  replace HT := Lib.hid (HT.out.next hb)
  replace HX := Lib.hid (HX.out.next hb)
  replace BB := Lib.hid (Below.andThen BB.out hb)
  clear hb
  go_wp2_with fail
  go_ret
  exact ⟨rfl, BB.out⟩
theorem digestTree_law (o : Option Addr) (pn pc : Nat) (S : Nat → ByteArray) (i m : Int) (w : World) (T : Tab w)
    (hpn : pn ≤ maxLen) (hps : ∀ i, i < pn → (S i).size ≤ maxLen) (hpc : ∀ i, i < pn → ∃ a, o = some a ∧ ∀ w', Below w.heap.size w w' → w'.cell? (a.add i) = some (.string (S i)))
    (_ : -9223372036854775808 ≤ i ∧ i ≤ 9223372036854775807) (_ : -9223372036854775808 ≤ m ∧ m ≤ 9223372036854775807) :
    Calls Tryd.prog 4 #[.slice o pn pc, .int .i64 i, .int .i64 m] w fun r w' => r = .returned (.bool true) ∧ Below w.heap.size w w' := digestTree_all o pn pc S i m w T hpn hps hpc
namespace digestTreeMatchesReference
set_option maxRecDepth 100000 in
theorem contract (H : Type) (enc : TypeId × Value → H) (W : World) (base : Nat) (args : Array Value) (ds gs : List (DataW H)) (before : List MemPlace)
    (hval : ∀ (j : Nat) t v, Tryd.f4.params[j]? = some t → args[j]? = some v → Value.okWide Tryd.prog W .any base t v)
    (hW : DataW.Whole enc Tryd.prog Tryd.f4.params.toList Rows.digestTreeMatchesReferenceSpec.vars false W args.toList ds gs before) (hL : laidMetH Tryd.prog Rows.digestTreeMatchesReferenceRow.laid W) :
    Calls Tryd.prog 4 args W fun e W' => ∃ v, e = .returned v ∧ Rows.digestTreeMatchesReferenceSpec.post enc Tryd.prog Tryd.f4 false true false false W args v W' := by
  have hW' := hW
  obtain ⟨p, q, hA0, hV, rfl, hfz, hnd⟩ := hW
  have hA : DataW.TrodAll enc Tryd.prog W 0 (fun _ => true) true Tryd.f4.params.toList args.toList ds p := hA0
  rw [Tryd.params4] at hA hval
  obtain ⟨v0, vs0, d0, ds0, p0, q0, hargs, rfl, rfl, h0, r0⟩ := trodAll_cons hA
  obtain ⟨v1, vs1, d1, ds1, p1, q1, rfl, rfl, rfl, h1, r1⟩ := trodAll_cons r0
  obtain ⟨v2, vs2, d2, ds2, p2, q2, rfl, rfl, rfl, h2, r2⟩ := trodAll_cons r1
  obtain ⟨rfl, rfl, rfl⟩ := trodAll_nil r2
  obtain rfl : args = #[v0, v1, v2] := by cases args; simp_all
  obtain ⟨oa0, la0, ca0, a0, rfl, ma0, k0, ga0⟩ := open_strS Tryd.underlying26 Tryd.underlying9 (by kernel_rfl) (hval 0 _ _ rfl rfl) h0
  obtain ⟨a1, rfl, rfl, rfl, k1⟩ := open_int Tryd.underlying3 (hval 1 _ _ rfl rfl) h1
  obtain ⟨a2, rfl, rfl, rfl, k2⟩ := open_int Tryd.underlying3 (hval 2 _ _ rfl rfl) h2
  refine (digestTree_law oa0 la0 ca0 a0 a1 a2 W (tab hL) ma0 k0 ga0 (bd_i64 k1) (bd_i64 k2)).mono fun e W' ⟨he, hb⟩ => ?_
  subst he
  obtain ⟨rfl, _⟩ := trodVars_none hV
  exact ⟨_, rfl, law_post laidOut (by kernel_rfl) rfl (by kernel_rfl) Tryd.underlying4 hW' rfl hb⟩

def args0 : Array Value := #[.slice none 0 0, .int .i64 0, .int .i64 0]
theorem laid_met (os : Os) : laidMet Tryd.prog Rows.digestTreeMatchesReferenceRow.laid ((laidWorld os).forCall (fun _ _ => 0) ⟨#[], args0, []⟩).memory :=
  laidMet_of_run' 8 (by kernel_rfl) (by kernel_rfl)
theorem reads (os : Os) {H : Type} (enc : TypeId × Value → H) : ∃ places, DataW.whole enc Tryd.prog ((laidWorld os).forCall (fun _ _ => 0) ⟨#[], args0, []⟩).memory Tryd.f4.params.toList Rows.digestTreeMatchesReferenceSpec.vars false args0.toList 8 = some ([.nil, .lit (.int .i64 0), .lit (.int .i64 0)], [], places) :=
  ⟨[], by kernel_rfl⟩

set_option maxRecDepth 100000 in
theorem lifted (os : Os) (started : os.Started) (H : Type) (enc : TypeId × Value → H) (F : Stop.Interp) :
    ReturnsInHanded {} Tryd.checked os 4 .any ((OpenSpec.ofChange Rows.digestTreeMatchesReferenceSpec).preRow enc Tryd.prog Tryd.f4 Rows.digestTreeMatchesReferenceRow.domain false Rows.digestTreeMatchesReferenceRow.laid) (((OpenSpec.ofChange Rows.digestTreeMatchesReferenceSpec).at F).post enc Tryd.prog Tryd.f4 false true false false) := by
  obtain ⟨places, hx⟩ := reads os enc
  refine returnsInHanded_of_row (C := Tryd.checked) (s := OpenSpec.ofChange Rows.digestTreeMatchesReferenceSpec) own started (by kernel_rfl) Tryd.func4
    (witness_row_at (enc := enc) (C := Tryd.checked) false (laidWorld os) args0 rfl (by kernel_rfl) (by kernel_rfl) (by kernel_rfl)
      (OpenSpec.preRow_of_cond 8 hx (by kernel_rfl) (fun k hk => by cases hk) (by kernel_rfl) (laid_met os))) ?_
  intro W base args ds gs before hval hW _ _ _ hL _ _
  exact contract H enc W base args ds gs before hval hW hL

theorem said : Rows.DigestTreeMatchesReferenceSaid :=
  OpenClaim.holds_of_cond 4 Tryd.f4 rfl rfl rfl rfl rfl rfl rfl ⟨rfl, rfl, rfl, rfl, rfl⟩ rfl rfl rfl rfl rfl (by kernel_rfl) Tryd.func4 (by kernel_rfl)
    (of_decide_eq_true (by kernel_rfl)) (by unfold Func.isWrapper; first | (rw [if_pos (by decide +kernel)]; kernel_rfl) | (rw [if_neg (by decide +kernel)]; exact ⟨rfl, rfl⟩))
    (fun os started H enc _ F => by rw [OpenClaim.pre_eq_preRow]; exact lifted os started H enc F)

theorem plain (f : FuncId) (fn : Func) (hf : Tryd.pinned.checked.prog.funcNamed "newswire/newswirelaw02.DigestTreeMatchesReference" = some f) (hfn : Tryd.pinned.checked.prog.funcs[f]? = some fn) :
    false = Tryd.pinned.checked.prog.looks [] ∧ ∀ (j : Nat) t, fn.params[j]? = some t → Tryd.pinned.checked.prog.wantsStandIn t = false := by
  obtain rfl : f = 4 := Option.some.inj ((show Tryd.prog.funcNamed "newswire/newswirelaw02.DigestTreeMatchesReference" = some 4 by kernel_rfl).symm.trans hf) |>.symm
  obtain rfl : fn = Tryd.f4 := (Option.some.inj (Tryd.func4.symm.trans hfn)).symm
  refine ⟨by kernel_rfl, fun j t ht => ?_⟩
  have all : (Tryd.f4.params.toList.all fun t => Tryd.prog.wantsStandIn t == false) = true := by kernel_rfl
  have := List.all_eq_true.1 all t (by rw [← Array.mem_def]; exact Array.mem_of_getElem? ht)
  exact (show Tryd.prog.wantsStandIn t = false by simpa using this)

/-- The statement. -/
theorem card : Rows.DigestTreeMatchesReferenceCardSaid :=
  Claim7.holds_tied_plain_at .later [] _ _ _ _ said (fun _ h => by cases h) (by kernel_rfl) (fun _ h => by cases h) digestTreeMatchesReference_row_tie rfl ⟨rfl, rfl⟩ (by kernel_rfl) rfl plain (by kernel_rfl)
end digestTreeMatchesReference
end Go.Proofs.YtojfblkmhdgjeaaDoor
