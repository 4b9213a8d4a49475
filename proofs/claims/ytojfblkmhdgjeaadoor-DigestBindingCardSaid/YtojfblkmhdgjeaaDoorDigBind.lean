/- For every input, DigestBinding returns true and leaves its arguments as they were; the rounds' table holds what the program's text lays. -/
import Derived.Test.YtojfblkmhdgjeaaDoorDigW3
namespace Go.Proofs.YtojfblkmhdgjeaaDoor
open Go.RowKit Go.ChangeShapes Go.WideShapes Go.ChangeAt

theorem verifyS_parts {root s : ByteArray} {n i : Int} {ps : List ByteArray} (h : verifyS root n i s ps = true) : 0 ≤ i ∧ i < n ∧ allD ps = true ∧ (sidesN n.toNat i.toNat).length = ps.length ∧ climb (leafS s) (sidesN n.toNat i.toNat) ps = root := by
  unfold verifyS at h
  simp only [Bool.and_eq_true, decide_eq_true_eq] at h
  exact ⟨h.1.1.1.1, h.1.1.1.2, h.1.1.2, h.1.2, h.2⟩
theorem zip_snd {ls : List Bool} {ps : List ByteArray} (h : allD ps = true) : ∀ p ∈ (ls.zip ps).reverse, p.2.size = 32 := by
  intro p hp
  have h1 := (List.of_mem_zip (a := p.1) (b := p.2) (by simpa using hp)).2
  have := List.all_eq_true.1 h _ h1
  simpa using this
theorem zip_fst {ls : List Bool} {ps : List ByteArray} (h : ls.length = ps.length) : (ls.zip ps).reverse.map (·.1) = ls.reverse := by
  rw [List.map_reverse, List.map_fst_zip (Nat.le_of_eq h)]
/-- two accepted proofs of different entries collide -/
theorem bind_collide {root s t : ByteArray} {n i : Nat} {ps qs : List ByteArray} (hst : s ≠ t) (h1 : verifyS root n i s ps = true) (h2 : verifyS root n i t qs = true) :
    collideS (wayZ s ((sidesN n i).zip ps).reverse) (wayZ t ((sidesN n i).zip qs).reverse) = true := by
  obtain ⟨_, _, a1, l1, c1⟩ := verifyS_parts h1
  obtain ⟨_, _, a2, l2, c2⟩ := verifyS_parts h2
  rw [Int.toNat_natCast, Int.toNat_natCast] at l1 l2 c1 c2
  refine wayZ_collide hst _ _ (by rw [zip_fst l1, zip_fst l2]) (zip_snd a1) (zip_snd a2) ?_
  rw [← valZ_climb, ← valZ_climb, c1, c2]

set_option maxRecDepth 100000 in
set_option maxHeartbeats 4000000 in
theorem digestBinding_all (root : ByteArray) (n i : Int) (s : ByteArray) (o : Option Addr) (pn pc : Nat) (S : Nat → ByteArray) (t : ByteArray) (o' : Option Addr) (qn qc : Nat) (S' : Nat → ByteArray) (w : World) (T : Tab w)
    (hn : -9223372036854775808 ≤ n ∧ n ≤ 9223372036854775807) (hsz : s.size ≤ maxLen)
    (hpn : pn ≤ maxLen) (hps : ∀ i, i < pn → (S i).size ≤ maxLen) (hpc : ∀ i, i < pn → ∃ a, o = some a ∧ ∀ w', Below w.heap.size w w' → w'.cell? (a.add i) = some (.string (S i))) (htz : t.size ≤ maxLen)
    (hqn : qn ≤ maxLen) (hqs : ∀ i, i < qn → (S' i).size ≤ maxLen) (hqc : ∀ i, i < qn → ∃ a, o' = some a ∧ ∀ w', Below w.heap.size w w' → w'.cell? (a.add i) = some (.string (S' i))) :
    Calls Tryd.prog 8 #[.string root, .int .i64 n, .int .i64 i, .string s, .slice o pn pc, .string t, .slice o' qn qc] w fun r w' => r = .returned (.bool true) ∧ Below w.heap.size w w' := by
  have HT := Lib.hid T
  have BB := Lib.hid (Below.refl w.heap.size w)
  have CF := Lib.hid (fun w' (hb : Below w.heap.size w w') => few_any o pn pc 70 S w' (by decide) hpn hps (fun i hi => by
    obtain ⟨a, e, h⟩ := hpc i hi
    exact ⟨a, e, fun w2 hb2 => h w2 (Below.andThen hb hb2)⟩))
  have CG := Lib.hid (fun w' (hb : Below w.heap.size w w') => few_any o' qn qc 70 S' w' (by decide) hqn hqs (fun i hi => by
    obtain ⟨a, e, h⟩ := hqc i hi
    exact ⟨a, e, fun w2 hb2 => h w2 (Below.andThen hb hb2)⟩))
  have s60 : s.extract 0 (min (s.size : Int) 60).toNat = cut60 s := rfl
  have t60 : t.extract 0 (min (t.size : Int) 60).toNat = cut60 t := rfl
  have m1 : 0 ≤ min (s.size : Int) 60 := by omega
  have m2 : min (s.size : Int) 60 ≤ (s.size : Int) := by omega
  have m3 : 0 ≤ min (t.size : Int) 60 := by omega
  have m4 : min (t.size : Int) 60 ≤ (t.size : Int) := by omega
  unfold maxLen at hsz htz
  have s6 := cut60_size s
  have t6 := cut60_size t
  generalize cut60 s = s' at *
  generalize cut60 t = t' at *
  clear T hpc hps hqc hqs hpn hqn
  go_enter Tryd.func8, Tryd.ntmps8
  go_wp2_with fail
  with_reducible refine Calls.mono (sane_any _ HT.out) ?_
  rintro e w1 ⟨rfl, hb⟩
  replace HT := Lib.hid (HT.out.next hb)
  replace BB := Lib.hid (Below.andThen BB.out hb)
  clear hb
  go_wp2_with fail
  with_reducible refine Calls.mono (CF.out _ BB.out) ?_
  rintro e w2 ⟨v, rfl, hown, hb⟩
  replace HT := Lib.hid (HT.out.next hb)
  replace BB := Lib.hid (Below.andThen BB.out hb)
  clear CF hb
  obtain ⟨xs, hxs⟩ : ∃ xs, xs = fewS S (min pn 70) := ⟨_, rfl⟩
  have hxl : xs.length ≤ 70 := by rw [hxs, fewS_length]; omega
  have hxm : ∀ x ∈ xs, x.size ≤ 60 := by rw [hxs]; exact fewS_small S _
  rw [← hxs] at hown
  obtain ⟨vo, vc, rfl, v1, v2, v3⟩ := hown.form
  have HX := Lib.hid hown.sl
  unfold maxLen at v2
  obtain ⟨P, hP⟩ : ∃ P, xs.length = P := ⟨_, rfl⟩
  rw [hP] at hxl v1 ⊢
  have HXP := Lib.hid hP
  have HXM := Lib.hid hxm
  clear hxs hown v3 hP hxm
  go_wp2_with fail
  with_reducible refine Calls.mono (CG.out _ BB.out) ?_
  rintro e w3 ⟨v, rfl, hown, hb⟩
  replace HT := Lib.hid (HT.out.next hb)
  replace HX := Lib.hid (HX.out.next hb)
  replace BB := Lib.hid (Below.andThen BB.out hb)
  clear CG hb
  obtain ⟨ys, hys⟩ : ∃ ys, ys = fewS S' (min qn 70) := ⟨_, rfl⟩
  have hyl : ys.length ≤ 70 := by rw [hys, fewS_length]; omega
  have hym : ∀ x ∈ ys, x.size ≤ 60 := by rw [hys]; exact fewS_small S' _
  rw [← hys] at hown
  obtain ⟨uo, uc, rfl, u1, u2, u3⟩ := hown.form
  have HY := Lib.hid hown.sl
  unfold maxLen at u2
  obtain ⟨Q, hQ⟩ : ∃ Q, ys.length = Q := ⟨_, rfl⟩
  rw [hQ] at hyl u1 ⊢
  have HYQ := Lib.hid hQ
  have HYM := Lib.hid hym
  clear hys hown u3 hQ hym
  have CV1 := Lib.hid (fun w' (T' : Tab w') (h : StrSl w' vo xs) => Verify_all root s' n i vo vc xs w' T' hn.2 h (by rw [HXP.out]; omega) (by omega))
  have CV2 := Lib.hid (fun w' (T' : Tab w') (h : StrSl w' uo ys) => Verify_all root t' n i uo uc ys w' T' hn.2 h (by rw [HYQ.out]; omega) (by omega))
  rw [HXP.out] at CV1
  rw [HYQ.out] at CV2
  by_cases hv1 : verifyS root n i s' xs = true
  · by_cases hv2 : verifyS root n i t' ys = true
    · by_cases hst : s' = t'
      · rw [hv1] at CV1
        rw [hv2] at CV2
        clear hv1 hv2
        subst hst
        go_wp2_with fail
        with_reducible refine Calls.mono (CV1.out _ HT.out HX.out) ?_
        rintro e w4 ⟨rfl, hb⟩
        replace HT := Lib.hid (HT.out.next hb)
        replace HX := Lib.hid (HX.out.next hb)
        replace HY := Lib.hid (HY.out.next hb)
        replace BB := Lib.hid (Below.andThen BB.out hb)
        clear hb
        go_wp2_with fail
        with_reducible refine Calls.mono (CV2.out _ HT.out HY.out) ?_
        rintro e w5 ⟨rfl, hb⟩
        replace HT := Lib.hid (HT.out.next hb)
        replace HX := Lib.hid (HX.out.next hb)
        replace HY := Lib.hid (HY.out.next hb)
        replace BB := Lib.hid (Below.andThen BB.out hb)
        clear hb
        go_wp2_with fail
        go_ret
        exact ⟨rfl, BB.out⟩
      · obtain ⟨h0, h1, _, hl1, _⟩ := verifyS_parts hv1
        obtain ⟨_, _, _, hl2, _⟩ := verifyS_parts hv2
        obtain ⟨I, rfl⟩ : ∃ I : Nat, i = I := ⟨i.toNat, by omega⟩
        obtain ⟨N, rfl⟩ : ∃ N : Nat, n = N := ⟨n.toNat, by omega⟩
        have HCO := Lib.hid (bind_collide hst hv1 hv2)
        rw [hv1] at CV1
        rw [hv2] at CV2
        rw [Int.toNat_natCast, Int.toNat_natCast] at hl1 hl2
        have CW1 := Lib.hid (fun w' (T' : Tab w') (h : StrSl w' vo xs) => way_any s' s6 P xs N I vo vc w' HXP.out (by omega) (by omega) (by omega) (by omega) hl1 v1 (by omega) h HXM.out T')
        have CW2 := Lib.hid (fun w' (T' : Tab w') (h : StrSl w' uo ys) => way_any t' t6 Q ys N I uo uc w' HYQ.out (by omega) (by omega) (by omega) (by omega) hl2 u1 (by omega) h HYM.out T')
        have hz1 : ((sidesN N I).zip xs).reverse.length = P := by rw [List.length_reverse, List.length_zip, hl1, HXP.out, Nat.min_self]
        have hz2 : ((sidesN N I).zip ys).reverse.length = Q := by rw [List.length_reverse, List.length_zip, hl2, HYQ.out, Nat.min_self]
        have z1 : ∀ p ∈ ((sidesN N I).zip xs).reverse, p.2.size ≤ 60 := fun p hp => HXM.out _ (List.of_mem_zip (a := p.1) (b := p.2) (by simpa using hp)).2
        have z2 : ∀ p ∈ ((sidesN N I).zip ys).reverse, p.2.size ≤ 60 := fun p hp => HYM.out _ (List.of_mem_zip (a := p.1) (b := p.2) (by simpa using hp)).2
        generalize ((sidesN N I).zip xs).reverse = Z at *
        generalize ((sidesN N I).zip ys).reverse = Y at *
        have HL1 := Lib.hid (show (wayZ s' Z).length = P + 1 by rw [wayZ_length, hz1])
        have HL2 := Lib.hid (show (wayZ t' Y).length = Q + 1 by rw [wayZ_length, hz2])
        have CC := Lib.hid (fun g g2 c c2 w' (T' : Tab w') (h : StrSl w' (some ⟨g, 0, none⟩) (wayZ s' Z)) (h' : StrSl w' (some ⟨g2, 0, none⟩) (wayZ t' Y)) => collide_any (wayZ s' Z) (wayZ t' Y) (some ⟨g, 0, none⟩) (some ⟨g2, 0, none⟩) c c2 w' T' h h' (by rw [HL1.out]; omega) (by rw [HL2.out]; omega) (fun x hx => by have := wayZ_small s' s6 Z z1 x hx; omega) (fun x hx => by have := wayZ_small t' t6 Y z2 x hx; omega))
        rw [HL1.out, HL2.out, HCO.out] at CC
        unfold WayOut at CW1 CW2
        have e1 : (s'.toList == t'.toList) = false := by rw [bytes_beq]; simpa using hst
        clear hv1 hv2 hl1 hl2 hz1 hz2 z1 z2 h0 h1
        go_wp2_with fail
        with_reducible refine Calls.mono (CV1.out _ HT.out HX.out) ?_
        rintro e w4 ⟨rfl, hb⟩
        replace HT := Lib.hid (HT.out.next hb)
        replace HX := Lib.hid (HX.out.next hb)
        replace HY := Lib.hid (HY.out.next hb)
        replace BB := Lib.hid (Below.andThen BB.out hb)
        clear hb
        go_wp2_with fail
        with_reducible refine Calls.mono (CV2.out _ HT.out HY.out) ?_
        rintro e w5 ⟨rfl, hb⟩
        replace HT := Lib.hid (HT.out.next hb)
        replace HX := Lib.hid (HX.out.next hb)
        replace HY := Lib.hid (HY.out.next hb)
        replace BB := Lib.hid (Below.andThen BB.out hb)
        clear hb
        go_wp2_with fail
        with_reducible refine Calls.mono (CW1.out _ HT.out HX.out) ?_
        rintro e w6 ⟨g, c3, rfl, hA, hb⟩
        replace HT := Lib.hid (HT.out.next hb)
        replace HX := Lib.hid (HX.out.next hb)
        replace HY := Lib.hid (HY.out.next hb)
        replace BB := Lib.hid (Below.andThen BB.out hb)
        have HA := Lib.hid hA; clear hA
        clear hb
        go_wp2_with fail
        with_reducible refine Calls.mono (CW2.out _ HT.out HY.out) ?_
        rintro e w7 ⟨g2, c4, rfl, hA2, hb⟩
        replace HT := Lib.hid (HT.out.next hb)
        replace HX := Lib.hid (HX.out.next hb)
        replace HY := Lib.hid (HY.out.next hb)
        replace HA := Lib.hid (HA.out.next hb)
        replace BB := Lib.hid (Below.andThen BB.out hb)
        have HA2 := Lib.hid hA2; clear hA2
        clear hb
        go_wp2_with fail
        with_reducible refine Calls.mono (CC.out _ _ _ _ _ HT.out HA.out HA2.out) ?_
        rintro e w8 ⟨rfl, hb⟩
        replace HT := Lib.hid (HT.out.next hb)
        replace BB := Lib.hid (Below.andThen BB.out hb)
        clear hb
        go_wp2_with fail
        go_ret
        exact ⟨rfl, BB.out⟩
    · have hf : verifyS root n i t' ys = false := by simpa using hv2
      rw [hv1] at CV1
      rw [hf] at CV2
      clear hv1 hv2 hf
      go_wp2_with fail
      with_reducible refine Calls.mono (CV1.out _ HT.out HX.out) ?_
      rintro e w4 ⟨rfl, hb⟩
      replace HT := Lib.hid (HT.out.next hb)
      replace HX := Lib.hid (HX.out.next hb)
      replace HY := Lib.hid (HY.out.next hb)
      replace BB := Lib.hid (Below.andThen BB.out hb)
      clear hb
      go_wp2_with fail
      with_reducible refine Calls.mono (CV2.out _ HT.out HY.out) ?_
      rintro e w5 ⟨rfl, hb⟩
      replace HT := Lib.hid (HT.out.next hb)
      replace HX := Lib.hid (HX.out.next hb)
      replace HY := Lib.hid (HY.out.next hb)
      replace BB := Lib.hid (Below.andThen BB.out hb)
      clear hb
      go_wp2_with fail
      go_ret
      exact ⟨rfl, BB.out⟩
  · have hf : verifyS root n i s' xs = false := by simpa using hv1
    rw [hf] at CV1
    generalize verifyS root n i t' ys = b2 at *
    clear hv1 hf
    go_wp2_with fail
    with_reducible refine Calls.mono (CV1.out _ HT.out HX.out) ?_
    rintro e w4 ⟨rfl, hb⟩
    replace HT := Lib.hid (HT.out.next hb)
    replace HX := Lib.hid (HX.out.next hb)
    replace HY := Lib.hid (HY.out.next hb)
    replace BB := Lib.hid (Below.andThen BB.out hb)
    clear hb
    go_wp2_with fail
    with_reducible refine Calls.mono (CV2.out _ HT.out HY.out) ?_
    rintro e w5 ⟨rfl, hb⟩
    replace HT := Lib.hid (HT.out.next hb)
    replace HX := Lib.hid (HX.out.next hb)
    replace HY := Lib.hid (HY.out.next hb)
    replace BB := Lib.hid (Below.andThen BB.out hb)
    clear hb
    go_wp2_with fail
    go_ret
    exact ⟨rfl, BB.out⟩

theorem digestBinding_law (root : ByteArray) (n i : Int) (s : ByteArray) (o : Option Addr) (pn pc : Nat) (S : Nat → ByteArray) (t : ByteArray) (o' : Option Addr) (qn qc : Nat) (S' : Nat → ByteArray) (w : World) (T : Tab w)
    (_ : root.size ≤ maxLen) (hn : -9223372036854775808 ≤ n ∧ n ≤ 9223372036854775807) (_ : -9223372036854775808 ≤ i ∧ i ≤ 9223372036854775807) (hsz : s.size ≤ maxLen)
    (hpn : pn ≤ maxLen) (hps : ∀ i, i < pn → (S i).size ≤ maxLen) (hpc : ∀ i, i < pn → ∃ a, o = some a ∧ ∀ w', Below w.heap.size w w' → w'.cell? (a.add i) = some (.string (S i))) (htz : t.size ≤ maxLen)
    (hqn : qn ≤ maxLen) (hqs : ∀ i, i < qn → (S' i).size ≤ maxLen) (hqc : ∀ i, i < qn → ∃ a, o' = some a ∧ ∀ w', Below w.heap.size w w' → w'.cell? (a.add i) = some (.string (S' i))) :
    Calls Tryd.prog 8 #[.string root, .int .i64 n, .int .i64 i, .string s, .slice o pn pc, .string t, .slice o' qn qc] w fun r w' => r = .returned (.bool true) ∧ Below w.heap.size w w' :=
  digestBinding_all root n i s o pn pc S t o' qn qc S' w T hn hsz hpn hps hpc htz hqn hqs hqc
namespace digestBinding
set_option maxRecDepth 100000 in
theorem contract (H : Type) (enc : TypeId × Value → H) (W : World) (base : Nat) (args : Array Value) (ds gs : List (DataW H)) (before : List MemPlace)
    (hval : ∀ (j : Nat) t v, Tryd.f8.params[j]? = some t → args[j]? = some v → Value.okWide Tryd.prog W .any base t v)
    (hW : DataW.Whole enc Tryd.prog Tryd.f8.params.toList Rows.digestBindingSpec.vars false W args.toList ds gs before) (hL : laidMetH Tryd.prog Rows.digestBindingRow.laid W) :
    Calls Tryd.prog 8 args W fun e W' => ∃ v, e = .returned v ∧ Rows.digestBindingSpec.post enc Tryd.prog Tryd.f8 false true false false W args v W' := by
  have hW' := hW
  obtain ⟨p, q, hA0, hV, rfl, hfz, hnd⟩ := hW
  have hA : DataW.TrodAll enc Tryd.prog W 0 (fun _ => true) true Tryd.f8.params.toList args.toList ds p := hA0
  rw [Tryd.params8] at hA hval
  obtain ⟨v0, vs0, d0, ds0, p0, q0, hargs, rfl, rfl, h0, r0⟩ := trodAll_cons hA
  obtain ⟨v1, vs1, d1, ds1, p1, q1, rfl, rfl, rfl, h1, r1⟩ := trodAll_cons r0
  obtain ⟨v2, vs2, d2, ds2, p2, q2, rfl, rfl, rfl, h2, r2⟩ := trodAll_cons r1
  obtain ⟨v3, vs3, d3, ds3, p3, q3, rfl, rfl, rfl, h3, r3⟩ := trodAll_cons r2
  obtain ⟨v4, vs4, d4, ds4, p4, q4, rfl, rfl, rfl, h4, r4⟩ := trodAll_cons r3
  obtain ⟨v5, vs5, d5, ds5, p5, q5, rfl, rfl, rfl, h5, r5⟩ := trodAll_cons r4
  obtain ⟨v6, vs6, d6, ds6, p6, q6, rfl, rfl, rfl, h6, r6⟩ := trodAll_cons r5
  obtain ⟨rfl, rfl, rfl⟩ := trodAll_nil r6
  obtain rfl : args = #[v0, v1, v2, v3, v4, v5, v6] := by cases args; simp_all
  obtain ⟨a0, rfl, rfl, rfl, k0⟩ := Go.ChangeMaps.open_string Tryd.underlying9 (hval 0 _ _ rfl rfl) h0
  obtain ⟨a1, rfl, rfl, rfl, k1⟩ := open_int Tryd.underlying3 (hval 1 _ _ rfl rfl) h1
  obtain ⟨a2, rfl, rfl, rfl, k2⟩ := open_int Tryd.underlying3 (hval 2 _ _ rfl rfl) h2
  obtain ⟨a3, rfl, rfl, rfl, k3⟩ := Go.ChangeMaps.open_string Tryd.underlying9 (hval 3 _ _ rfl rfl) h3
  obtain ⟨oa4, la4, ca4, a4, rfl, ma4, k4, ga4⟩ := open_strS Tryd.underlying26 Tryd.underlying9 (by kernel_rfl) (hval 4 _ _ rfl rfl) h4
  obtain ⟨a5, rfl, rfl, rfl, k5⟩ := Go.ChangeMaps.open_string Tryd.underlying9 (hval 5 _ _ rfl rfl) h5
  obtain ⟨oa6, la6, ca6, a6, rfl, ma6, k6, ga6⟩ := open_strS Tryd.underlying26 Tryd.underlying9 (by kernel_rfl) (hval 6 _ _ rfl rfl) h6
  refine (digestBinding_law a0 a1 a2 a3 oa4 la4 ca4 a4 a5 oa6 la6 ca6 a6 W (tab hL) k0 (bd_i64 k1) (bd_i64 k2) k3 ma4 k4 ga4 k5 ma6 k6 ga6).mono fun e W' ⟨he, hb⟩ => ?_
  subst he
  obtain ⟨rfl, _⟩ := trodVars_none hV
  exact ⟨_, rfl, law_post laidOut (by kernel_rfl) rfl (by kernel_rfl) Tryd.underlying4 hW' rfl hb⟩

def args0 : Array Value := #[.string ⟨#[]⟩, .int .i64 0, .int .i64 0, .string ⟨#[]⟩, .slice none 0 0, .string ⟨#[]⟩, .slice none 0 0]
theorem laid_met (os : Os) : laidMet Tryd.prog Rows.digestBindingRow.laid ((laidWorld os).forCall (fun _ _ => 0) ⟨#[], args0, []⟩).memory :=
  laidMet_of_run' 8 (by kernel_rfl) (by kernel_rfl)
theorem reads (os : Os) {H : Type} (enc : TypeId × Value → H) : ∃ places, DataW.whole enc Tryd.prog ((laidWorld os).forCall (fun _ _ => 0) ⟨#[], args0, []⟩).memory Tryd.f8.params.toList Rows.digestBindingSpec.vars false args0.toList 8 = some ([.lit (.string []), .lit (.int .i64 0), .lit (.int .i64 0), .lit (.string []), .nil, .lit (.string []), .nil], [], places) :=
  ⟨[], by kernel_rfl⟩

set_option maxRecDepth 100000 in
theorem lifted (os : Os) (started : os.Started) (H : Type) (enc : TypeId × Value → H) (F : Stop.Interp) :
    ReturnsInHanded {} Tryd.checked os 8 .any ((OpenSpec.ofChange Rows.digestBindingSpec).preRow enc Tryd.prog Tryd.f8 Rows.digestBindingRow.domain false Rows.digestBindingRow.laid) (((OpenSpec.ofChange Rows.digestBindingSpec).at F).post enc Tryd.prog Tryd.f8 false true false false) := by
  obtain ⟨places, hx⟩ := reads os enc
  refine returnsInHanded_of_row (C := Tryd.checked) (s := OpenSpec.ofChange Rows.digestBindingSpec) own started (by kernel_rfl) Tryd.func8
    (witness_row_at (enc := enc) (C := Tryd.checked) false (laidWorld os) args0 rfl (by kernel_rfl) (by kernel_rfl) (by kernel_rfl)
      (OpenSpec.preRow_of_cond 8 hx (by kernel_rfl) (fun k hk => by cases hk) (by kernel_rfl) (laid_met os))) ?_
  intro W base args ds gs before hval hW _ _ _ hL _ _
  exact contract H enc W base args ds gs before hval hW hL

theorem said : Rows.DigestBindingSaid :=
  OpenClaim.holds_of_cond 8 Tryd.f8 rfl rfl rfl rfl rfl rfl rfl ⟨rfl, rfl, rfl, rfl, rfl⟩ rfl rfl rfl rfl rfl (by kernel_rfl) Tryd.func8 (by kernel_rfl)
    (of_decide_eq_true (by kernel_rfl)) (by unfold Func.isWrapper; first | (rw [if_pos (by decide +kernel)]; kernel_rfl) | (rw [if_neg (by decide +kernel)]; exact ⟨rfl, rfl⟩))
    (fun os started H enc _ F => by rw [OpenClaim.pre_eq_preRow]; exact lifted os started H enc F)

theorem plain (f : FuncId) (fn : Func) (hf : Tryd.pinned.checked.prog.funcNamed "newswire/newswirelaw02.DigestBinding" = some f) (hfn : Tryd.pinned.checked.prog.funcs[f]? = some fn) :
    false = Tryd.pinned.checked.prog.looks [] ∧ ∀ (j : Nat) t, fn.params[j]? = some t → Tryd.pinned.checked.prog.wantsStandIn t = false := by
  obtain rfl : f = 8 := Option.some.inj ((show Tryd.prog.funcNamed "newswire/newswirelaw02.DigestBinding" = some 8 by kernel_rfl).symm.trans hf) |>.symm
  obtain rfl : fn = Tryd.f8 := (Option.some.inj (Tryd.func8.symm.trans hfn)).symm
  refine ⟨by kernel_rfl, fun j t ht => ?_⟩
  have all : (Tryd.f8.params.toList.all fun t => Tryd.prog.wantsStandIn t == false) = true := by kernel_rfl
  have := List.all_eq_true.1 all t (by rw [← Array.mem_def]; exact Array.mem_of_getElem? ht)
  exact (show Tryd.prog.wantsStandIn t = false by simpa using this)

/-- The statement. -/
theorem card : Rows.DigestBindingCardSaid :=
  Claim7.holds_tied_plain_at .later [] _ _ _ _ said (fun _ h => by cases h) (by kernel_rfl) (fun _ h => by cases h) digestBinding_row_tie rfl ⟨rfl, rfl⟩ (by kernel_rfl) rfl plain (by kernel_rfl)
end digestBinding
end Go.Proofs.YtojfblkmhdgjeaaDoor
