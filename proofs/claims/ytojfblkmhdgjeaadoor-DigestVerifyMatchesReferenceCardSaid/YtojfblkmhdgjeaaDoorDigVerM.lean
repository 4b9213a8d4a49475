/- For every input, DigestVerifyMatchesReference returns true and leaves its argument as it was; the rounds' table holds what the program's text lays. -/
import Derived.Test.YtojfblkmhdgjeaaDoorDigRG
namespace Go.Proofs.YtojfblkmhdgjeaaDoor
open Go.RowKit Go.ChangeShapes Go.WideShapes Go.ChangeAt

set_option maxRecDepth 100000 in
set_option maxHeartbeats 4000000 in
theorem refVerExt_any (old root : ByteArray) (m n : Int) (o : Option Addr) (c : Nat) (ps : List ByteArray) (w : World) (hn : n ≤ 9223372036854775807) (hS : StrSl w o ps) (hl : ps.length ≤ 2 ^ 30) (hpc : ps.length ≤ c) (hc : c ≤ 9223372036854775807) :
    Calls Tryd.prog 32 #[.string old, .int .i64 m, .string root, .int .i64 n, .slice o ps.length c] w fun e w' => e = .returned (.bool (verExtS old m root n ps)) ∧ Below w.heap.size w w' := by
  have CD := Lib.hid (refDigests_any ps o c w hS hl)
  have HX := Lib.hid hS
  obtain ⟨PL, hPL⟩ : ∃ N, ps.length = N := ⟨_, rfl⟩
  rw [hPL] at CD hpc hl ⊢
  by_cases h1 : m < 0
  · have HE := Lib.hid (show verExtS old m root n ps = false by
      unfold verExtS
      rw [decide_eq_false (show ¬ 0 ≤ m by omega)]; simp)
    rw [HE.out]
    have d1 : decide (m < 0) = true := by simpa using h1
    clear hS hPL
    go_enter Tryd.func32, Tryd.ntmps32
    go_wp2_with fail
    with_reducible refine Calls.mono CD.out ?_
    rintro e w2 ⟨rfl, hb⟩
    have HB := Lib.hid hb
    clear hb
    go_wp2_with fail
    go_ret
    exact ⟨rfl, HB.out⟩
  have d1 : decide (m < 0) = false := by simpa using h1
  by_cases h2 : n < m
  · have HE := Lib.hid (show verExtS old m root n ps = false by
      unfold verExtS
      rw [decide_eq_false (show ¬ m ≤ n by omega)]; simp)
    rw [HE.out]
    have d2 : decide (n < m) = true := by simpa using h2
    clear hS hPL
    go_enter Tryd.func32, Tryd.ntmps32
    go_wp2_with fail
    with_reducible refine Calls.mono CD.out ?_
    rintro e w2 ⟨rfl, hb⟩
    have HB := Lib.hid hb
    clear hb
    go_wp2_with fail
    go_ret
    exact ⟨rfl, HB.out⟩
  have d2 : decide (n < m) = false := by simpa using h2
  cases ha : allD ps with
  | false =>
    have HE := Lib.hid (show verExtS old m root n ps = false by
      unfold verExtS
      rw [ha]; simp)
    rw [ha] at CD
    rw [HE.out]
    clear hS hPL ha
    go_enter Tryd.func32, Tryd.ntmps32
    go_wp2_with fail
    with_reducible refine Calls.mono CD.out ?_
    rintro e w2 ⟨rfl, hb⟩
    have HB := Lib.hid hb
    clear hb
    go_wp2_with fail
    go_ret
    exact ⟨rfl, HB.out⟩
  | true =>
    rw [ha] at CD
    by_cases ho : old.size = 32
    case neg =>
      have HE := Lib.hid (show verExtS old m root n ps = false by
        unfold verExtS
        have : allD [old, root] = false := by simp [allD, ho]
        rw [this]; simp)
      rw [HE.out]
      have e1 : decide ((old.size : Int) = 32) = false := by simp; omega
      have e2 : ((old.size : Int) == 32) = false := by simp; omega
      have e3 : ((old.size : Int) != 32) = true := by simp; omega
      have e4 : ¬ (old.size : Int) = 32 := by omega
      clear hS hPL ha ho
      go_enter Tryd.func32, Tryd.ntmps32
      go_wp2_with fail
      with_reducible refine Calls.mono CD.out ?_
      rintro e w2 ⟨rfl, hb⟩
      have HB := Lib.hid hb
      clear hb
      go_wp2_with fail
      go_ret
      exact ⟨rfl, HB.out⟩
    have HO := Lib.hid ho
    have e1 : decide ((old.size : Int) = 32) = true := by simp; omega
    have e2 : ((old.size : Int) == 32) = true := by simp; omega
    have e3 : ((old.size : Int) != 32) = false := by simp; omega
    have e4 : (old.size : Int) = 32 := by omega
    by_cases hr : root.size = 32
    case neg =>
      have HE := Lib.hid (show verExtS old m root n ps = false by
        unfold verExtS
        have : allD [old, root] = false := by simp [allD, hr]
        rw [this]; simp)
      rw [HE.out]
      have r1 : decide ((root.size : Int) = 32) = false := by simp; omega
      have r2 : ((root.size : Int) == 32) = false := by simp; omega
      have r3 : ((root.size : Int) != 32) = true := by simp; omega
      have r4 : ¬ (root.size : Int) = 32 := by omega
      clear hS hPL ha ho hr
      go_enter Tryd.func32, Tryd.ntmps32
      go_wp2_with fail
      with_reducible refine Calls.mono CD.out ?_
      rintro e w2 ⟨rfl, hb⟩
      have HB := Lib.hid hb
      clear hb
      go_wp2_with fail
      go_ret
      exact ⟨rfl, HB.out⟩
    have r1 : decide ((root.size : Int) = 32) = true := by simp; omega
    have r2 : ((root.size : Int) == 32) = true := by simp; omega
    have r3 : ((root.size : Int) != 32) = false := by simp; omega
    have r4 : (root.size : Int) = 32 := by omega
    obtain ⟨M, rfl⟩ := Int.eq_ofNat_of_zero_le (show 0 ≤ m by omega)
    obtain ⟨N, rfl⟩ := Int.eq_ofNat_of_zero_le (show 0 ≤ n by omega)
    have HV := Lib.hid (show verExtS old M root N ps = if (M : Int) = 0 then decide (ps = []) && decide (old = sumS ⟨#[]⟩) else extTest old M root N ps by
      unfold verExtS
      have : allD [old, root] = true := by simp [allD, ho, hr]
      rw [decide_eq_true (show 0 ≤ (M : Int) by omega), decide_eq_true (show (M : Int) ≤ N by omega), this, ha]
      simp)
    rw [HV.out]
    have HPS := Lib.hid (show (PL = 0) ↔ ps = [] by rw [← hPL]; exact List.length_eq_zero_iff)
    by_cases hm : M = 0
    · subst hm
      rw [if_pos (show ((0 : Nat) : Int) = 0 from rfl)]
      have CS := Lib.hid (fun W => refSum_any ⟨#[]⟩ W (by decide))
      generalize sumS ⟨#[]⟩ = Z at *
      by_cases hp : PL = 0
      · obtain rfl := HPS.out.1 hp
        subst hp
        have HQ := Lib.hid (show (old.toList == Z.toList) = (decide (([] : List ByteArray) = []) && decide (old = Z)) by rw [bytes_beq]; simp)
        rw [← HQ.out]
        clear hS hPL ha ho hr
        go_enter Tryd.func32, Tryd.ntmps32
        go_wp2_with fail
        with_reducible refine Calls.mono CD.out ?_
        rintro e w2 ⟨rfl, hb⟩
        have HB := Lib.hid hb
        clear hb
        go_wp2_with fail
        with_reducible refine Calls.mono (CS.out _) ?_
        rintro e w3 ⟨rfl, hb⟩
        replace HB := Lib.hid (Below.andThen HB.out hb)
        clear hb
        go_wp2_with fail
        go_ret
        exact ⟨rfl, HB.out⟩
      · have hpn : ps ≠ [] := fun h => hp (HPS.out.2 h)
        rw [decide_eq_false hpn, Bool.false_and]
        have p1 : decide ((PL : Int) = 0) = false := by simp; omega
        clear hS hPL ha ho hr hpn
        go_enter Tryd.func32, Tryd.ntmps32
        go_wp2_with fail
        with_reducible refine Calls.mono CD.out ?_
        rintro e w2 ⟨rfl, hb⟩
        have HB := Lib.hid hb
        clear hb
        go_wp2_with fail
        go_ret
        exact ⟨rfl, HB.out⟩
    · have m1 : decide ((M : Int) = 0) = false := by simp; omega
      have m2 : ¬ (M : Int) = 0 := by omega
      rw [if_neg m2, extTest_both]
      by_cases hmn : M = N
      · subst hmn
        rw [bothO_whole, hPL]
        by_cases hp : PL = 0
        · subst hp
          rw [if_pos rfl]
          have HQ := Lib.hid (show (old.toList == root.toList) = (decide (old = old) && decide (old = root)) by rw [bytes_beq]; simp)
          have HQ2 := Lib.hid (show (match some (old, old) with | none => false | some p => decide (p.1 = old) && decide (p.2 = root)) = (old.toList == root.toList) by rw [HQ.out])
          clear hS hPL ha ho hr
          go_enter Tryd.func32, Tryd.ntmps32
          go_wp2_with fail
          with_reducible refine Calls.mono CD.out ?_
          rintro e w2 ⟨rfl, hb⟩
          have HB := Lib.hid hb
          clear hb
          go_wp2_with fail
          go_ret
          exact ⟨retv (congrArg Value.bool HQ2.out.symm), HB.out⟩
        · rw [if_neg hp]
          have p1 : decide ((PL : Int) = 0) = false := by simp; omega
          clear hS hPL ha ho hr
          go_enter Tryd.func32, Tryd.ntmps32
          go_wp2_with fail
          with_reducible refine Calls.mono CD.out ?_
          rintro e w2 ⟨rfl, hb⟩
          have HB := Lib.hid hb
          clear hb
          go_wp2_with fail
          go_ret
          exact ⟨rfl, HB.out⟩
      · have n1 : decide ((M : Int) = N) = false := by simp; omega
        have n2 : ¬ (M : Int) = N := by omega
        have CV := Lib.hid (fun W (h : StrSl W o ps) => refBoth_any old ho N ps PL M true o c W hPL (by omega) (by omega) (by omega) (by omega) (by omega) hc h (fun x hx => by have := List.all_eq_true.1 ha x hx; simpa using this))
        unfold BothOut at CV
        clear hS hl hPL ha ho hr hmn
        generalize bothO old true N M ps = V at *
        go_enter Tryd.func32, Tryd.ntmps32
        go_wp2_with fail
        with_reducible refine Calls.mono CD.out ?_
        rintro e w2 ⟨rfl, hb⟩
        have HB := Lib.hid hb
        replace HX := Lib.hid (HX.out.next hb)
        clear hb
        go_wp2_with fail
        with_reducible refine Calls.mono (CV.out _ HX.out) ?_
        rintro e w3 ⟨a, b, rfl, hv, _, _, hb⟩
        replace HB := Lib.hid (Below.andThen HB.out hb)
        clear hb
        cases V with
        | none =>
          rw [Option.isSome_none]
          clear hv
          go_wp2_with fail
          go_ret
          exact ⟨rfl, HB.out⟩
        | some u =>
          obtain ⟨ua, ub⟩ := u
          obtain ⟨rfl, rfl⟩ := hv _ rfl
          rw [Option.isSome_some]
          clear hv
          have HQ := Lib.hid (show (match some (a, b) with | none => false | some p => decide (p.1 = old) && decide (p.2 = root)) = ((a.toList == old.toList) && (b.toList == root.toList)) by rw [bytes_beq, bytes_beq])
          cases hA : (a.toList == old.toList) with
          | false =>
            rw [hA, Bool.false_and] at HQ
            go_wp2_with fail
            go_ret
            exact ⟨retv (congrArg Value.bool HQ.out.symm), HB.out⟩
          | true =>
            rw [hA, Bool.true_and] at HQ
            go_wp2_with fail
            go_ret
            exact ⟨retv (congrArg Value.bool HQ.out.symm), HB.out⟩

set_option maxRecDepth 100000 in
set_option maxHeartbeats 4000000 in
theorem digestVerify_all (old root : ByteArray) (n i : Int) (s : ByteArray) (o : Option Addr) (pn pc : Nat) (S : Nat → ByteArray) (w : World) (T : Tab w)
    (hn : -9223372036854775808 ≤ n ∧ n ≤ 9223372036854775807) (hsz : s.size ≤ maxLen)
    (hpn : pn ≤ maxLen) (hps : ∀ i, i < pn → (S i).size ≤ maxLen) (hpc : ∀ i, i < pn → ∃ a, o = some a ∧ ∀ w', Below w.heap.size w w' → w'.cell? (a.add i) = some (.string (S i))) :
    Calls Tryd.prog 5 #[.string old, .string root, .int .i64 n, .int .i64 i, .string s, .slice o pn pc] w fun r w' => r = .returned (.bool true) ∧ Below w.heap.size w w' := by
  have HT := Lib.hid T
  have BB := Lib.hid (Below.refl w.heap.size w)
  have CF := Lib.hid (fun w' (hb : Below w.heap.size w w') => few_any o pn pc 70 S w' (by decide) hpn hps (fun i hi => by
    obtain ⟨a, e, h⟩ := hpc i hi
    exact ⟨a, e, fun w2 hb2 => h w2 (Below.andThen hb hb2)⟩))
  have s60 : s.extract 0 (min (s.size : Int) 60).toNat = cut60 s := rfl
  have m1 : 0 ≤ min (s.size : Int) 60 := by omega
  have m2 : min (s.size : Int) 60 ≤ (s.size : Int) := by omega
  unfold maxLen at hsz
  have s6 := cut60_size s
  generalize cut60 s = s' at *
  clear T hpc hps hpn
  go_enter Tryd.func5, Tryd.ntmps5
  go_wp2_with fail
  with_reducible refine Calls.mono (sane_any _ HT.out) ?_
  rintro e w1 ⟨rfl, hb⟩
  replace HT := Lib.hid (HT.out.next hb)
  replace BB := Lib.hid (Below.andThen BB.out hb)
  clear hb
  go_wp2_with fail
  with_reducible refine Calls.mono (CF.out _ BB.out) ?_
  rintro e w2 ⟨v, rfl, hown, hb⟩
  replace HT := Lib.hid (HT.out.next hb)
  replace BB := Lib.hid (Below.andThen BB.out hb)
  clear CF hb
  obtain ⟨xs, hxs⟩ : ∃ xs, xs = fewS S (min pn 70) := ⟨_, rfl⟩
  have hxl : xs.length ≤ 70 := by rw [hxs, fewS_length]; omega
  rw [← hxs] at hown
  obtain ⟨vo, vc, rfl, v1, v2, v3⟩ := hown.form
  have HX := Lib.hid hown.sl
  unfold maxLen at v2
  have D1 := Lib.hid (fun W (T' : Tab W) (h : StrSl W vo xs) => Verify_all root s' n i vo vc xs W T' hn.2 h (by omega) (by omega))
  have D2 := Lib.hid (fun W (h : StrSl W vo xs) => refVerify_any root s' n i vo vc xs W hn.2 h (by omega) (by omega) v1 v2)
  have D3 := Lib.hid (fun W (T' : Tab W) (h : StrSl W vo xs) => VerExt_all old root i n vo vc xs W T' hn.2 h (by omega) v1)
  have D4 := Lib.hid (fun W (h : StrSl W vo xs) => refVerExt_any old root i n vo vc xs W hn.2 h (by omega) v1 v2)
  clear hxs hown v3
  generalize verifyS root n i s' xs = b1 at *
  generalize verExtS old i root n xs = b2 at *
  generalize xs.length = N at *
  go_wp2_with fail
  with_reducible refine Calls.mono (D1.out _ HT.out HX.out) ?_
  rintro e w3 ⟨rfl, hb⟩
  replace HT := Lib.hid (HT.out.next hb)
  replace HX := Lib.hid (HX.out.next hb)
  replace BB := Lib.hid (Below.andThen BB.out hb)
  clear hb
  go_wp2_with fail
  with_reducible refine Calls.mono (D2.out _ HX.out) ?_
  rintro e w4 ⟨rfl, hb⟩
  replace HT := Lib.hid (HT.out.next hb)
  replace HX := Lib.hid (HX.out.next hb)
  replace BB := Lib.hid (Below.andThen BB.out hb)
  clear hb
  go_wp2_with fail
  with_reducible refine Calls.mono (D3.out _ HT.out HX.out) ?_
  rintro e w5 ⟨rfl, hb⟩
  replace HT := Lib.hid (HT.out.next hb)
  replace HX := Lib.hid (HX.out.next hb)
  replace BB := Lib.hid (Below.andThen BB.out hb)
  clear hb
  go_wp2_with fail
  with_reducible refine Calls.mono (D4.out _ HX.out) ?_
  rintro e w6 ⟨rfl, hb⟩
  replace HT := Lib.hid (HT.out.next hb)
  replace HX := Lib.hid (HX.out.next hb)
  replace BB := Lib.hid (Below.andThen BB.out hb)
  clear hb
  go_wp2_with fail
  go_ret
  exact ⟨rfl, BB.out⟩
theorem digestVerify_law (old root : ByteArray) (n i : Int) (s : ByteArray) (o : Option Addr) (pn pc : Nat) (S : Nat → ByteArray) (w : World) (T : Tab w)
    (_ : old.size ≤ maxLen) (_ : root.size ≤ maxLen) (hn : -9223372036854775808 ≤ n ∧ n ≤ 9223372036854775807) (_ : -9223372036854775808 ≤ i ∧ i ≤ 9223372036854775807) (hsz : s.size ≤ maxLen)
    (hpn : pn ≤ maxLen) (hps : ∀ i, i < pn → (S i).size ≤ maxLen) (hpc : ∀ i, i < pn → ∃ a, o = some a ∧ ∀ w', Below w.heap.size w w' → w'.cell? (a.add i) = some (.string (S i))) :
    Calls Tryd.prog 5 #[.string old, .string root, .int .i64 n, .int .i64 i, .string s, .slice o pn pc] w fun r w' => r = .returned (.bool true) ∧ Below w.heap.size w w' := digestVerify_all old root n i s o pn pc S w T hn hsz hpn hps hpc
namespace digestVerifyMatchesReference
set_option maxRecDepth 100000 in
theorem contract (H : Type) (enc : TypeId × Value → H) (W : World) (base : Nat) (args : Array Value) (ds gs : List (DataW H)) (before : List MemPlace)
    (hval : ∀ (j : Nat) t v, Tryd.f5.params[j]? = some t → args[j]? = some v → Value.okWide Tryd.prog W .any base t v)
    (hW : DataW.Whole enc Tryd.prog Tryd.f5.params.toList Rows.digestVerifyMatchesReferenceSpec.vars false W args.toList ds gs before) (hL : laidMetH Tryd.prog Rows.digestVerifyMatchesReferenceRow.laid W) :
    Calls Tryd.prog 5 args W fun e W' => ∃ v, e = .returned v ∧ Rows.digestVerifyMatchesReferenceSpec.post enc Tryd.prog Tryd.f5 false true false false W args v W' := by
  have hW' := hW
  obtain ⟨p, q, hA0, hV, rfl, hfz, hnd⟩ := hW
  have hA : DataW.TrodAll enc Tryd.prog W 0 (fun _ => true) true Tryd.f5.params.toList args.toList ds p := hA0
  rw [Tryd.params5] at hA hval
  obtain ⟨v0, vs0, d0, ds0, p0, q0, hargs, rfl, rfl, h0, r0⟩ := trodAll_cons hA
  obtain ⟨v1, vs1, d1, ds1, p1, q1, rfl, rfl, rfl, h1, r1⟩ := trodAll_cons r0
  obtain ⟨v2, vs2, d2, ds2, p2, q2, rfl, rfl, rfl, h2, r2⟩ := trodAll_cons r1
  obtain ⟨v3, vs3, d3, ds3, p3, q3, rfl, rfl, rfl, h3, r3⟩ := trodAll_cons r2
  obtain ⟨v4, vs4, d4, ds4, p4, q4, rfl, rfl, rfl, h4, r4⟩ := trodAll_cons r3
  obtain ⟨v5, vs5, d5, ds5, p5, q5, rfl, rfl, rfl, h5, r5⟩ := trodAll_cons r4
  obtain ⟨rfl, rfl, rfl⟩ := trodAll_nil r5
  obtain rfl : args = #[v0, v1, v2, v3, v4, v5] := by cases args; simp_all
  obtain ⟨a0, rfl, rfl, rfl, k0⟩ := Go.ChangeMaps.open_string Tryd.underlying9 (hval 0 _ _ rfl rfl) h0
  obtain ⟨a1, rfl, rfl, rfl, k1⟩ := Go.ChangeMaps.open_string Tryd.underlying9 (hval 1 _ _ rfl rfl) h1
  obtain ⟨a2, rfl, rfl, rfl, k2⟩ := open_int Tryd.underlying3 (hval 2 _ _ rfl rfl) h2
  obtain ⟨a3, rfl, rfl, rfl, k3⟩ := open_int Tryd.underlying3 (hval 3 _ _ rfl rfl) h3
  obtain ⟨a4, rfl, rfl, rfl, k4⟩ := Go.ChangeMaps.open_string Tryd.underlying9 (hval 4 _ _ rfl rfl) h4
  obtain ⟨oa5, la5, ca5, a5, rfl, ma5, k5, ga5⟩ := open_strS Tryd.underlying26 Tryd.underlying9 (by kernel_rfl) (hval 5 _ _ rfl rfl) h5
  refine (digestVerify_law a0 a1 a2 a3 a4 oa5 la5 ca5 a5 W (tab hL) k0 k1 (bd_i64 k2) (bd_i64 k3) k4 ma5 k5 ga5).mono fun e W' ⟨he, hb⟩ => ?_
  subst he
  obtain ⟨rfl, _⟩ := trodVars_none hV
  exact ⟨_, rfl, law_post laidOut (by kernel_rfl) rfl (by kernel_rfl) Tryd.underlying4 hW' rfl hb⟩

def args0 : Array Value := #[.string ⟨#[]⟩, .string ⟨#[]⟩, .int .i64 0, .int .i64 0, .string ⟨#[]⟩, .slice none 0 0]
theorem laid_met (os : Os) : laidMet Tryd.prog Rows.digestVerifyMatchesReferenceRow.laid ((laidWorld os).forCall (fun _ _ => 0) ⟨#[], args0, []⟩).memory :=
  laidMet_of_run' 8 (by kernel_rfl) (by kernel_rfl)
theorem reads (os : Os) {H : Type} (enc : TypeId × Value → H) : ∃ places, DataW.whole enc Tryd.prog ((laidWorld os).forCall (fun _ _ => 0) ⟨#[], args0, []⟩).memory Tryd.f5.params.toList Rows.digestVerifyMatchesReferenceSpec.vars false args0.toList 8 = some ([.lit (.string []), .lit (.string []), .lit (.int .i64 0), .lit (.int .i64 0), .lit (.string []), .nil], [], places) :=
  ⟨[], by kernel_rfl⟩

set_option maxRecDepth 100000 in
theorem lifted (os : Os) (started : os.Started) (H : Type) (enc : TypeId × Value → H) (F : Stop.Interp) :
    ReturnsInHanded {} Tryd.checked os 5 .any ((OpenSpec.ofChange Rows.digestVerifyMatchesReferenceSpec).preRow enc Tryd.prog Tryd.f5 Rows.digestVerifyMatchesReferenceRow.domain false Rows.digestVerifyMatchesReferenceRow.laid) (((OpenSpec.ofChange Rows.digestVerifyMatchesReferenceSpec).at F).post enc Tryd.prog Tryd.f5 false true false false) := by
  obtain ⟨places, hx⟩ := reads os enc
  refine returnsInHanded_of_row (C := Tryd.checked) (s := OpenSpec.ofChange Rows.digestVerifyMatchesReferenceSpec) own started (by kernel_rfl) Tryd.func5
    (witness_row_at (enc := enc) (C := Tryd.checked) false (laidWorld os) args0 rfl (by kernel_rfl) (by kernel_rfl) (by kernel_rfl)
      (OpenSpec.preRow_of_cond 8 hx (by kernel_rfl) (fun k hk => by cases hk) (by kernel_rfl) (laid_met os))) ?_
  intro W base args ds gs before hval hW _ _ _ hL _ _
  exact contract H enc W base args ds gs before hval hW hL

theorem said : Rows.DigestVerifyMatchesReferenceSaid :=
  OpenClaim.holds_of_cond 5 Tryd.f5 rfl rfl rfl rfl rfl rfl rfl ⟨rfl, rfl, rfl, rfl, rfl⟩ rfl rfl rfl rfl rfl (by kernel_rfl) Tryd.func5 (by kernel_rfl)
    (of_decide_eq_true (by kernel_rfl)) (by unfold Func.isWrapper; first | (rw [if_pos (by decide +kernel)]; kernel_rfl) | (rw [if_neg (by decide +kernel)]; exact ⟨rfl, rfl⟩))
    (fun os started H enc _ F => by rw [OpenClaim.pre_eq_preRow]; exact lifted os started H enc F)

theorem plain (f : FuncId) (fn : Func) (hf : Tryd.pinned.checked.prog.funcNamed "newswire/newswirelaw02.DigestVerifyMatchesReference" = some f) (hfn : Tryd.pinned.checked.prog.funcs[f]? = some fn) :
    false = Tryd.pinned.checked.prog.looks [] ∧ ∀ (j : Nat) t, fn.params[j]? = some t → Tryd.pinned.checked.prog.wantsStandIn t = false := by
  obtain rfl : f = 5 := Option.some.inj ((show Tryd.prog.funcNamed "newswire/newswirelaw02.DigestVerifyMatchesReference" = some 5 by kernel_rfl).symm.trans hf) |>.symm
  obtain rfl : fn = Tryd.f5 := (Option.some.inj (Tryd.func5.symm.trans hfn)).symm
  refine ⟨by kernel_rfl, fun j t ht => ?_⟩
  have all : (Tryd.f5.params.toList.all fun t => Tryd.prog.wantsStandIn t == false) = true := by kernel_rfl
  have := List.all_eq_true.1 all t (by rw [← Array.mem_def]; exact Array.mem_of_getElem? ht)
  exact (show Tryd.prog.wantsStandIn t = false by simpa using this)

/-- The statement. -/
theorem card : Rows.DigestVerifyMatchesReferenceCardSaid :=
  Claim7.holds_tied_plain_at .later [] _ _ _ _ said (fun _ h => by cases h) (by kernel_rfl) (fun _ h => by cases h) digestVerifyMatchesReference_row_tie rfl ⟨rfl, rfl⟩ (by kernel_rfl) rfl plain (by kernel_rfl)
end digestVerifyMatchesReference
end Go.Proofs.YtojfblkmhdgjeaaDoor
