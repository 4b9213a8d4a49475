/- For every input, DigestExtensionBinding returns true and leaves its arguments as they were; the rounds' table holds what the program's text lays. -/
import Derived.Test.YtojfblkmhdgjeaaDoorDigX2
namespace Go.Proofs.YtojfblkmhdgjeaaDoor
open Go.RowKit Go.ChangeShapes Go.WideShapes Go.ChangeAt

theorem allD_mem {ps : List ByteArray} (h : allD ps = true) : ∀ x ∈ ps, x.size = 32 := fun x hx => by simpa using List.all_eq_true.1 h x hx
theorem zip_snd {ls : List Bool} {ps : List ByteArray} (h : ∀ x ∈ ps, x.size = 32) : ∀ p ∈ (ls.zip ps).reverse, p.2.size = 32 := by
  intro p hp
  exact h _ (List.of_mem_zip (a := p.1) (b := p.2) (by simpa using hp)).2
theorem zip_fst {ls : List Bool} {ps : List ByteArray} (h : ls.length = ps.length) : (ls.zip ps).reverse.map (·.1) = ls.reverse := by
  rw [List.map_reverse, List.map_fst_zip (Nat.le_of_eq h)]
theorem zip_two {ls : List Bool} {ps qs : List ByteArray} (h : ls.length = ps.length) (h' : ls.length = qs.length) (e : (ls.zip ps).reverse = (ls.zip qs).reverse) : ps = qs := by
  have e1 : (ls.zip ps).map Prod.snd = (ls.zip qs).map Prod.snd := congrArg (fun l => l.map Prod.snd) (List.reverse_inj.1 e)
  rw [List.map_snd_zip (Nat.le_of_eq h.symm), List.map_snd_zip (Nat.le_of_eq h'.symm)] at e1
  exact e1
/-- what an accepted extension is: what stands at its start, and the rest -/
theorem verExtS_parts {old root : ByteArray} {m n : Int} {ps : List ByteArray} (h : verExtS old m root n ps = true) :
    0 ≤ m ∧ m ≤ n ∧ old.size = 32 ∧ (∀ x ∈ ps, x.size = 32) ∧ ((m = 0 ∧ old = sumS ⟨#[]⟩) ∨
      (m ≠ 0 ∧ ∃ u pre rest, ps = pre ++ rest ∧ u.size = 32 ∧ ((true && wholeN n.toNat m.toNat) = true ∧ pre = [] ∧ u = old ∨ (true && wholeN n.toNat m.toNat) = false ∧ pre = [u]) ∧ (xsN n.toNat m.toNat).length = rest.length ∧
        shortV u (xsN n.toNat m.toNat) rest = old ∧ climb u (xsN n.toNat m.toNat) rest = root)) := by
  unfold verExtS at h
  simp only [Bool.and_eq_true, decide_eq_true_eq] at h
  obtain ⟨⟨⟨⟨h0, h1⟩, h2⟩, h3⟩, h4⟩ := h
  have ho : old.size = 32 := allD_mem h2 old (by simp)
  refine ⟨h0, h1, ho, allD_mem h3, ?_⟩
  by_cases hm : m = 0
  · rw [if_pos hm] at h4
    simp only [Bool.and_eq_true, decide_eq_true_eq] at h4
    exact .inl ⟨hm, h4.2⟩
  · rw [if_neg hm] at h4
    refine .inr ⟨hm, ?_⟩
    unfold extTest at h4
    by_cases hw : wholeN n.toNat m.toNat = true
    · rw [if_pos hw] at h4
      simp only [Bool.and_eq_true, decide_eq_true_eq] at h4
      exact ⟨old, [], ps, rfl, ho, .inl ⟨by rw [hw]; rfl, rfl, rfl⟩, h4.1, h4.2.1, h4.2.2⟩
    · rw [if_neg hw] at h4
      cases ps with
      | nil => cases h4
      | cons f r =>
        simp only [Bool.and_eq_true, decide_eq_true_eq] at h4
        exact ⟨f, [f], r, rfl, allD_mem h3 f (by simp), .inr ⟨by simpa using hw, rfl⟩, h4.1, h4.2.1, h4.2.2⟩
/-- two accepted extensions of different beginnings collide -/
theorem ext_collide {a b root u v : ByteArray} {ls : List Bool} {ps qs : List ByteArray} (hab : a ≠ b) (hu : u.size = 32) (hv : v.size = 32) (hp : ∀ x ∈ ps, x.size = 32) (hq : ∀ x ∈ qs, x.size = 32) (l1 : ls.length = ps.length) (l2 : ls.length = qs.length)
    (s1 : shortV u ls ps = a) (s2 : shortV v ls qs = b) (c1 : climb u ls ps = root) (c2 : climb v ls qs = root) : collideS (wayW u (ls.zip ps).reverse) (wayW v (ls.zip qs).reverse) = true := by
  rcases wayW_collide hu hv (ls.zip ps).reverse (ls.zip qs).reverse (by rw [zip_fst l1, zip_fst l2]) (zip_snd hp) (zip_snd hq) (by rw [← valW_climb, ← valW_climb, c1, c2]) with h | ⟨rfl, h⟩
  · exact h
  · exact absurd (s1.symm.trans ((by rw [zip_two l1 l2 h] : shortV u ls ps = shortV u ls qs).trans s2)) hab

set_option maxRecDepth 100000 in
set_option maxHeartbeats 4000000 in
theorem digestExtBinding_all (a : ByteArray) (o : Option Addr) (pn pc : Nat) (S : Nat → ByteArray) (b : ByteArray) (o' : Option Addr) (qn qc : Nat) (S' : Nat → ByteArray) (m : Int) (root : ByteArray) (n : Int) (w : World) (T : Tab w)
    (hpn : pn ≤ maxLen) (hps : ∀ i, i < pn → (S i).size ≤ maxLen) (hpc : ∀ i, i < pn → ∃ a, o = some a ∧ ∀ w', Below w.heap.size w w' → w'.cell? (a.add i) = some (.string (S i)))
    (hqn : qn ≤ maxLen) (hqs : ∀ i, i < qn → (S' i).size ≤ maxLen) (hqc : ∀ i, i < qn → ∃ a, o' = some a ∧ ∀ w', Below w.heap.size w w' → w'.cell? (a.add i) = some (.string (S' i)))
    (hn : -9223372036854775808 ≤ n ∧ n ≤ 9223372036854775807) :
    Calls Tryd.prog 10 #[.string a, .slice o pn pc, .string b, .slice o' qn qc, .int .i64 m, .string root, .int .i64 n] w fun r w' => r = .returned (.bool true) ∧ Below w.heap.size w w' := by
  have HT := Lib.hid T
  have BB := Lib.hid (Below.refl w.heap.size w)
  have CF := Lib.hid (fun w' (hb : Below w.heap.size w w') => few_any o pn pc 70 S w' (by decide) hpn hps (fun i hi => by
    obtain ⟨a, e, h⟩ := hpc i hi
    exact ⟨a, e, fun w2 hb2 => h w2 (Below.andThen hb hb2)⟩))
  have CG := Lib.hid (fun w' (hb : Below w.heap.size w w') => few_any o' qn qc 70 S' w' (by decide) hqn hqs (fun i hi => by
    obtain ⟨a, e, h⟩ := hqc i hi
    exact ⟨a, e, fun w2 hb2 => h w2 (Below.andThen hb hb2)⟩))
  clear T hpc hps hqc hqs hpn hqn
  go_enter Tryd.func10, Tryd.ntmps10
  go_wp2_with fail
  with_reducible refine Calls.mono (sane_any _ HT.out) ?_
  rintro e w1 ⟨rfl, hb⟩
  replace HT := Lib.hid (HT.out.next hb)
  replace BB := Lib.hid (Below.andThen BB.out hb)
  clear hb
  go_wp2_with fail
  with_reducible refine Calls.mono (CF.out _ BB.out) ?_
  rintro e w2 ⟨v, rfl, hown, hb⟩
  replace HT := Lib.hid (HT.out.next hb)
  replace BB := Lib.hid (Below.andThen BB.out hb)
  clear CF hb
  obtain ⟨xs, hxs⟩ : ∃ xs, xs = fewS S (min pn 70) := ⟨_, rfl⟩
  have hxl : xs.length ≤ 70 := by rw [hxs, fewS_length]; omega
  rw [← hxs] at hown
  obtain ⟨vo, vc, rfl, v1, v2, v3⟩ := hown.form
  have HX := Lib.hid hown.sl
  unfold maxLen at v2
  obtain ⟨P, hP⟩ : ∃ P, xs.length = P := ⟨_, rfl⟩
  rw [hP] at hxl v1 ⊢
  have HXP := Lib.hid hP
  clear hxs hown v3 hP
  go_wp2_with fail
  with_reducible refine Calls.mono (CG.out _ BB.out) ?_
  rintro e w3 ⟨v, rfl, hown, hb⟩
  replace HT := Lib.hid (HT.out.next hb)
  replace HX := Lib.hid (HX.out.next hb)
  replace BB := Lib.hid (Below.andThen BB.out hb)
  clear CG hb
  obtain ⟨ys, hys⟩ : ∃ ys, ys = fewS S' (min qn 70) := ⟨_, rfl⟩
  have hyl : ys.length ≤ 70 := by rw [hys, fewS_length]; omega
  rw [← hys] at hown
  obtain ⟨uo, uc, rfl, u1, u2, u3⟩ := hown.form
  have HY := Lib.hid hown.sl
  unfold maxLen at u2
  obtain ⟨Q, hQ⟩ : ∃ Q, ys.length = Q := ⟨_, rfl⟩
  rw [hQ] at hyl u1 ⊢
  have HYQ := Lib.hid hQ
  clear hys hown u3 hQ
  have CV1 := Lib.hid (fun w' (T' : Tab w') (h : StrSl w' vo xs) => VerExt_all a root m n vo vc xs w' T' hn.2 h (by rw [HXP.out]; omega) (by rw [HXP.out]; omega))
  have CV2 := Lib.hid (fun w' (T' : Tab w') (h : StrSl w' uo ys) => VerExt_all b root m n uo uc ys w' T' hn.2 h (by rw [HYQ.out]; omega) (by rw [HYQ.out]; omega))
  rw [HXP.out] at CV1
  rw [HYQ.out] at CV2
  by_cases hv1 : verExtS a m root n xs = true
  · by_cases hv2 : verExtS b m root n ys = true
    · by_cases hst : a = b
      · rw [hv1] at CV1
        rw [hv2] at CV2
        clear hv1 hv2
        subst hst
        go_wp2_with fail
        with_reducible refine Calls.mono (CV1.out _ HT.out HX.out) ?_
        rintro e w4 ⟨rfl, hb⟩
        replace HT := Lib.hid (HT.out.next hb)
        replace HX := Lib.hid (HX.out.next hb)
        replace HY := Lib.hid (HY.out.next hb)
        replace BB := Lib.hid (Below.andThen BB.out hb)
        clear hb
        go_wp2_with fail
        with_reducible refine Calls.mono (CV2.out _ HT.out HY.out) ?_
        rintro e w5 ⟨rfl, hb⟩
        replace HT := Lib.hid (HT.out.next hb)
        replace HX := Lib.hid (HX.out.next hb)
        replace HY := Lib.hid (HY.out.next hb)
        replace BB := Lib.hid (Below.andThen BB.out hb)
        clear hb
        go_wp2_with fail
        go_ret
        exact ⟨rfl, BB.out⟩
      · obtain ⟨h0, h1, _, hd1, hq1⟩ := verExtS_parts hv1
        obtain ⟨_, _, _, hd2, hq2⟩ := verExtS_parts hv2
        obtain ⟨M, rfl⟩ : ∃ M : Nat, m = M := ⟨m.toNat, by omega⟩
        obtain ⟨N, rfl⟩ : ∃ N : Nat, n = N := ⟨n.toNat, by omega⟩
        rw [hv1] at CV1
        rw [hv2] at CV2
        rcases hq1 with ⟨_, ha⟩ | ⟨hm0, u, pre, rest, hx, hu, hpre, hl1, hs1, hc1⟩
        · exfalso
          rcases hq2 with ⟨_, hb⟩ | ⟨hm0, _⟩
          · exact hst (ha.trans hb.symm)
          · exact hm0 (by assumption)
        rcases hq2 with ⟨hm1, _⟩ | ⟨_, v, pre', rest', hy, hv, hpre', hl2, hs2, hc2⟩
        · exact absurd hm1 hm0
        rw [Int.toNat_natCast, Int.toNat_natCast] at hl1 hl2 hs1 hs2 hc1 hc2 hpre hpre'
        have hr1 : ∀ x ∈ rest, x.size = 32 := fun x h => hd1 x (by rw [hx]; exact List.mem_append_right _ h)
        have hr2 : ∀ x ∈ rest', x.size = 32 := fun x h => hd2 x (by rw [hy]; exact List.mem_append_right _ h)
        have HCO := Lib.hid (ext_collide hst hu hv hr1 hr2 hl1 hl2 hs1 hs2 hc1 hc2)
        have hx2 : (pre ++ rest).length = P := by rw [← hx, HXP.out]
        have hy2 : (pre' ++ rest').length = Q := by rw [← hy, HYQ.out]
        have hR1 : rest.length ≤ P := by rw [← hx2, List.length_append]; omega
        have hR2 : rest'.length ≤ Q := by rw [← hy2, List.length_append]; omega
        rw [hx] at HX CV1
        rw [hy] at HY CV2
        obtain ⟨R1, hR⟩ : ∃ R, rest.length = R := ⟨_, rfl⟩
        obtain ⟨R2, hR'⟩ : ∃ R, rest'.length = R := ⟨_, rfl⟩
        rw [hR] at hR1
        rw [hR'] at hR2
        have CW1 := Lib.hid (fun w' (T' : Tab w') (h : StrSl w' vo (pre ++ rest)) => sides_any a u hu R1 rest P true N M pre vo vc w' hR hx2 hpre (by omega) (by omega) (by omega) (by omega) hl1 v1 (by omega) h hr1 T')
        have CW2 := Lib.hid (fun w' (T' : Tab w') (h : StrSl w' uo (pre' ++ rest')) => sides_any b v hv R2 rest' Q true N M pre' uo uc w' hR' hy2 hpre' (by omega) (by omega) (by omega) (by omega) hl2 u1 (by omega) h hr2 T')
        have hz1 : ((xsN N M).zip rest).reverse.length = R1 := by rw [List.length_reverse, List.length_zip, hl1, hR, Nat.min_self]
        have hz2 : ((xsN N M).zip rest').reverse.length = R2 := by rw [List.length_reverse, List.length_zip, hl2, hR', Nat.min_self]
        have z1 := zip_snd (ls := xsN N M) hr1
        have z2 := zip_snd (ls := xsN N M) hr2
        generalize ((xsN N M).zip rest).reverse = Z at *
        generalize ((xsN N M).zip rest').reverse = Y at *
        have HL1 := Lib.hid (show (wayW u Z).length = R1 by rw [wayW_length, hz1])
        have HL2 := Lib.hid (show (wayW v Y).length = R2 by rw [wayW_length, hz2])
        have CC := Lib.hid (fun g g2 c c2 w' (T' : Tab w') (h : StrSl w' g (wayW u Z)) (h' : StrSl w' g2 (wayW v Y)) => collide_any (wayW u Z) (wayW v Y) g g2 c c2 w' T' h h' (by rw [HL1.out]; omega) (by rw [HL2.out]; omega) (fun x hx => by have := wayW_small hu Z z1 x hx; omega) (fun x hx => by have := wayW_small hv Y z2 x hx; omega))
        rw [HL1.out, HL2.out, HCO.out] at CC
        unfold SideOut at CW1 CW2
        have e1 : (a.toList == b.toList) = false := by rw [bytes_beq]; simpa using hst
        clear hv1 hv2 hl1 hl2 hz1 hz2 z1 z2 h0 h1 hd1 hd2 hx hy hx2 hy2 hpre hpre' hR hR' hs1 hs2 hc1 hc2 hr1 hr2 hu hv
        go_wp2_with fail
        with_reducible refine Calls.mono (CV1.out _ HT.out HX.out) ?_
        rintro e w4 ⟨rfl, hb⟩
        replace HT := Lib.hid (HT.out.next hb)
        replace HX := Lib.hid (HX.out.next hb)
        replace HY := Lib.hid (HY.out.next hb)
        replace BB := Lib.hid (Below.andThen BB.out hb)
        clear hb
        go_wp2_with fail
        with_reducible refine Calls.mono (CV2.out _ HT.out HY.out) ?_
        rintro e w5 ⟨rfl, hb⟩
        replace HT := Lib.hid (HT.out.next hb)
        replace HX := Lib.hid (HX.out.next hb)
        replace HY := Lib.hid (HY.out.next hb)
        replace BB := Lib.hid (Below.andThen BB.out hb)
        clear hb
        go_wp2_with fail
        with_reducible refine Calls.mono (CW1.out _ HT.out HX.out) ?_
        rintro e w6 ⟨g, c3, rfl, _, hA, hb⟩
        replace HT := Lib.hid (HT.out.next hb)
        replace HX := Lib.hid (HX.out.next hb)
        replace HY := Lib.hid (HY.out.next hb)
        replace BB := Lib.hid (Below.andThen BB.out hb)
        have HA := Lib.hid hA; clear hA
        clear hb
        go_wp2_with fail
        with_reducible refine Calls.mono (CW2.out _ HT.out HY.out) ?_
        rintro e w7 ⟨g2, c4, rfl, _, hA2, hb⟩
        replace HT := Lib.hid (HT.out.next hb)
        replace HX := Lib.hid (HX.out.next hb)
        replace HY := Lib.hid (HY.out.next hb)
        replace HA := Lib.hid (HA.out.next hb)
        replace BB := Lib.hid (Below.andThen BB.out hb)
        have HA2 := Lib.hid hA2; clear hA2
        clear hb
        go_wp2_with fail
        with_reducible refine Calls.mono (CC.out _ _ _ _ _ HT.out HA.out HA2.out) ?_
        rintro e w8 ⟨rfl, hb⟩
        replace HT := Lib.hid (HT.out.next hb)
        replace BB := Lib.hid (Below.andThen BB.out hb)
        clear hb
        go_wp2_with fail
        go_ret
        exact ⟨rfl, BB.out⟩
    · have hf : verExtS b m root n ys = false := by simpa using hv2
      rw [hv1] at CV1
      rw [hf] at CV2
      clear hv1 hv2 hf
      go_wp2_with fail
      with_reducible refine Calls.mono (CV1.out _ HT.out HX.out) ?_
      rintro e w4 ⟨rfl, hb⟩
      replace HT := Lib.hid (HT.out.next hb)
      replace HX := Lib.hid (HX.out.next hb)
      replace HY := Lib.hid (HY.out.next hb)
      replace BB := Lib.hid (Below.andThen BB.out hb)
      clear hb
      go_wp2_with fail
      with_reducible refine Calls.mono (CV2.out _ HT.out HY.out) ?_
      rintro e w5 ⟨rfl, hb⟩
      replace HT := Lib.hid (HT.out.next hb)
      replace HX := Lib.hid (HX.out.next hb)
      replace HY := Lib.hid (HY.out.next hb)
      replace BB := Lib.hid (Below.andThen BB.out hb)
      clear hb
      go_wp2_with fail
      go_ret
      exact ⟨rfl, BB.out⟩
  · have hf : verExtS a m root n xs = false := by simpa using hv1
    rw [hf] at CV1
    generalize verExtS b m root n ys = b2 at *
    clear hv1 hf
    go_wp2_with fail
    with_reducible refine Calls.mono (CV1.out _ HT.out HX.out) ?_
    rintro e w4 ⟨rfl, hb⟩
    replace HT := Lib.hid (HT.out.next hb)
    replace HX := Lib.hid (HX.out.next hb)
    replace HY := Lib.hid (HY.out.next hb)
    replace BB := Lib.hid (Below.andThen BB.out hb)
    clear hb
    go_wp2_with fail
    with_reducible refine Calls.mono (CV2.out _ HT.out HY.out) ?_
    rintro e w5 ⟨rfl, hb⟩
    replace HT := Lib.hid (HT.out.next hb)
    replace HX := Lib.hid (HX.out.next hb)
    replace HY := Lib.hid (HY.out.next hb)
    replace BB := Lib.hid (Below.andThen BB.out hb)
    clear hb
    go_wp2_with fail
    go_ret
    exact ⟨rfl, BB.out⟩

theorem digestExtBinding_law (a : ByteArray) (o : Option Addr) (pn pc : Nat) (S : Nat → ByteArray) (b : ByteArray) (o' : Option Addr) (qn qc : Nat) (S' : Nat → ByteArray) (m : Int) (root : ByteArray) (n : Int) (w : World) (T : Tab w) (_ : a.size ≤ maxLen)
    (hpn : pn ≤ maxLen) (hps : ∀ i, i < pn → (S i).size ≤ maxLen) (hpc : ∀ i, i < pn → ∃ a, o = some a ∧ ∀ w', Below w.heap.size w w' → w'.cell? (a.add i) = some (.string (S i))) (_ : b.size ≤ maxLen)
    (hqn : qn ≤ maxLen) (hqs : ∀ i, i < qn → (S' i).size ≤ maxLen) (hqc : ∀ i, i < qn → ∃ a, o' = some a ∧ ∀ w', Below w.heap.size w w' → w'.cell? (a.add i) = some (.string (S' i)))
    (_ : -9223372036854775808 ≤ m ∧ m ≤ 9223372036854775807) (_ : root.size ≤ maxLen) (hn : -9223372036854775808 ≤ n ∧ n ≤ 9223372036854775807) :
    Calls Tryd.prog 10 #[.string a, .slice o pn pc, .string b, .slice o' qn qc, .int .i64 m, .string root, .int .i64 n] w fun r w' => r = .returned (.bool true) ∧ Below w.heap.size w w' :=
  digestExtBinding_all a o pn pc S b o' qn qc S' m root n w T hpn hps hpc hqn hqs hqc hn
namespace digestExtensionBinding
set_option maxRecDepth 100000 in
theorem contract (H : Type) (enc : TypeId × Value → H) (W : World) (base : Nat) (args : Array Value) (ds gs : List (DataW H)) (before : List MemPlace)
    (hval : ∀ (j : Nat) t v, Tryd.f10.params[j]? = some t → args[j]? = some v → Value.okWide Tryd.prog W .any base t v)
    (hW : DataW.Whole enc Tryd.prog Tryd.f10.params.toList Rows.digestExtensionBindingSpec.vars false W args.toList ds gs before) (hL : laidMetH Tryd.prog Rows.digestExtensionBindingRow.laid W) :
    Calls Tryd.prog 10 args W fun e W' => ∃ v, e = .returned v ∧ Rows.digestExtensionBindingSpec.post enc Tryd.prog Tryd.f10 false true false false W args v W' := by
  have hW' := hW
  obtain ⟨p, q, hA0, hV, rfl, hfz, hnd⟩ := hW
  have hA : DataW.TrodAll enc Tryd.prog W 0 (fun _ => true) true Tryd.f10.params.toList args.toList ds p := hA0
  rw [Tryd.params10] at hA hval
  obtain ⟨v0, vs0, d0, ds0, p0, q0, hargs, rfl, rfl, h0, r0⟩ := trodAll_cons hA
  obtain ⟨v1, vs1, d1, ds1, p1, q1, rfl, rfl, rfl, h1, r1⟩ := trodAll_cons r0
  obtain ⟨v2, vs2, d2, ds2, p2, q2, rfl, rfl, rfl, h2, r2⟩ := trodAll_cons r1
  obtain ⟨v3, vs3, d3, ds3, p3, q3, rfl, rfl, rfl, h3, r3⟩ := trodAll_cons r2
  obtain ⟨v4, vs4, d4, ds4, p4, q4, rfl, rfl, rfl, h4, r4⟩ := trodAll_cons r3
  obtain ⟨v5, vs5, d5, ds5, p5, q5, rfl, rfl, rfl, h5, r5⟩ := trodAll_cons r4
  obtain ⟨v6, vs6, d6, ds6, p6, q6, rfl, rfl, rfl, h6, r6⟩ := trodAll_cons r5
  obtain ⟨rfl, rfl, rfl⟩ := trodAll_nil r6
  obtain rfl : args = #[v0, v1, v2, v3, v4, v5, v6] := by cases args; simp_all
  obtain ⟨a0, rfl, rfl, rfl, k0⟩ := Go.ChangeMaps.open_string Tryd.underlying9 (hval 0 _ _ rfl rfl) h0
  obtain ⟨oa1, la1, ca1, a1, rfl, ma1, k1, ga1⟩ := open_strS Tryd.underlying26 Tryd.underlying9 (by kernel_rfl) (hval 1 _ _ rfl rfl) h1
  obtain ⟨a2, rfl, rfl, rfl, k2⟩ := Go.ChangeMaps.open_string Tryd.underlying9 (hval 2 _ _ rfl rfl) h2
  obtain ⟨oa3, la3, ca3, a3, rfl, ma3, k3, ga3⟩ := open_strS Tryd.underlying26 Tryd.underlying9 (by kernel_rfl) (hval 3 _ _ rfl rfl) h3
  obtain ⟨a4, rfl, rfl, rfl, k4⟩ := open_int Tryd.underlying3 (hval 4 _ _ rfl rfl) h4
  obtain ⟨a5, rfl, rfl, rfl, k5⟩ := Go.ChangeMaps.open_string Tryd.underlying9 (hval 5 _ _ rfl rfl) h5
  obtain ⟨a6, rfl, rfl, rfl, k6⟩ := open_int Tryd.underlying3 (hval 6 _ _ rfl rfl) h6
  refine (digestExtBinding_law a0 oa1 la1 ca1 a1 a2 oa3 la3 ca3 a3 a4 a5 a6 W (tab hL) k0 ma1 k1 ga1 k2 ma3 k3 ga3 (bd_i64 k4) k5 (bd_i64 k6)).mono fun e W' ⟨he, hb⟩ => ?_
  subst he
  obtain ⟨rfl, _⟩ := trodVars_none hV
  exact ⟨_, rfl, law_post laidOut (by kernel_rfl) rfl (by kernel_rfl) Tryd.underlying4 hW' rfl hb⟩

def args0 : Array Value := #[.string ⟨#[]⟩, .slice none 0 0, .string ⟨#[]⟩, .slice none 0 0, .int .i64 0, .string ⟨#[]⟩, .int .i64 0]
theorem laid_met (os : Os) : laidMet Tryd.prog Rows.digestExtensionBindingRow.laid ((laidWorld os).forCall (fun _ _ => 0) ⟨#[], args0, []⟩).memory :=
  laidMet_of_run' 8 (by kernel_rfl) (by kernel_rfl)
theorem reads (os : Os) {H : Type} (enc : TypeId × Value → H) : ∃ places, DataW.whole enc Tryd.prog ((laidWorld os).forCall (fun _ _ => 0) ⟨#[], args0, []⟩).memory Tryd.f10.params.toList Rows.digestExtensionBindingSpec.vars false args0.toList 8 = some ([.lit (.string []), .nil, .lit (.string []), .nil, .lit (.int .i64 0), .lit (.string []), .lit (.int .i64 0)], [], places) :=
  ⟨[], by kernel_rfl⟩

set_option maxRecDepth 100000 in
theorem lifted (os : Os) (started : os.Started) (H : Type) (enc : TypeId × Value → H) (F : Stop.Interp) :
    ReturnsInHanded {} Tryd.checked os 10 .any ((OpenSpec.ofChange Rows.digestExtensionBindingSpec).preRow enc Tryd.prog Tryd.f10 Rows.digestExtensionBindingRow.domain false Rows.digestExtensionBindingRow.laid) (((OpenSpec.ofChange Rows.digestExtensionBindingSpec).at F).post enc Tryd.prog Tryd.f10 false true false false) := by
  obtain ⟨places, hx⟩ := reads os enc
  refine returnsInHanded_of_row (C := Tryd.checked) (s := OpenSpec.ofChange Rows.digestExtensionBindingSpec) own started (by kernel_rfl) Tryd.func10
    (witness_row_at (enc := enc) (C := Tryd.checked) false (laidWorld os) args0 rfl (by kernel_rfl) (by kernel_rfl) (by kernel_rfl)
      (OpenSpec.preRow_of_cond 8 hx (by kernel_rfl) (fun k hk => by cases hk) (by kernel_rfl) (laid_met os))) ?_
  intro W base args ds gs before hval hW _ _ _ hL _ _
  exact contract H enc W base args ds gs before hval hW hL

theorem said : Rows.DigestExtensionBindingSaid :=
  OpenClaim.holds_of_cond 10 Tryd.f10 rfl rfl rfl rfl rfl rfl rfl ⟨rfl, rfl, rfl, rfl, rfl⟩ rfl rfl rfl rfl rfl (by kernel_rfl) Tryd.func10 (by kernel_rfl)
    (of_decide_eq_true (by kernel_rfl)) (by unfold Func.isWrapper; first | (rw [if_pos (by decide +kernel)]; kernel_rfl) | (rw [if_neg (by decide +kernel)]; exact ⟨rfl, rfl⟩))
    (fun os started H enc _ F => by rw [OpenClaim.pre_eq_preRow]; exact lifted os started H enc F)

theorem plain (f : FuncId) (fn : Func) (hf : Tryd.pinned.checked.prog.funcNamed "newswire/newswirelaw02.DigestExtensionBinding" = some f) (hfn : Tryd.pinned.checked.prog.funcs[f]? = some fn) :
    false = Tryd.pinned.checked.prog.looks [] ∧ ∀ (j : Nat) t, fn.params[j]? = some t → Tryd.pinned.checked.prog.wantsStandIn t = false := by
  obtain rfl : f = 10 := Option.some.inj ((show Tryd.prog.funcNamed "newswire/newswirelaw02.DigestExtensionBinding" = some 10 by kernel_rfl).symm.trans hf) |>.symm
  obtain rfl : fn = Tryd.f10 := (Option.some.inj (Tryd.func10.symm.trans hfn)).symm
  refine ⟨by kernel_rfl, fun j t ht => ?_⟩
  have all : (Tryd.f10.params.toList.all fun t => Tryd.prog.wantsStandIn t == false) = true := by kernel_rfl
  have := List.all_eq_true.1 all t (by rw [← Array.mem_def]; exact Array.mem_of_getElem? ht)
  exact (show Tryd.prog.wantsStandIn t = false by simpa using this)

/-- The statement. -/
theorem card : Rows.DigestExtensionBindingCardSaid :=
  Claim7.holds_tied_plain_at .later [] _ _ _ _ said (fun _ h => by cases h) (by kernel_rfl) (fun _ h => by cases h) digestExtensionBinding_row_tie rfl ⟨rfl, rfl⟩ (by kernel_rfl) rfl plain (by kernel_rfl)
end digestExtensionBinding
end Go.Proofs.YtojfblkmhdgjeaaDoor
