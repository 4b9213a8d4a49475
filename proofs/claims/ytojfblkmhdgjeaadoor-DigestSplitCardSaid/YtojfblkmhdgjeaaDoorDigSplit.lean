/- For every input, DigestSplit returns true and leaves its arguments as they were; the rounds' table holds what the program's text lays. -/
import Derived.Test.YtojfblkmhdgjeaaDoorDigFrame
import Derived.Test.YtojfblkmhdgjeaaDoorSlices
namespace Go.Proofs.YtojfblkmhdgjeaaDoor
open Go.RowKit Go.ChangeShapes Go.WideShapes Go.ChangeAt

theorem extS_last (xs : List ByteArray) (s : ByteArray) : verExtS (rootS xs) xs.length (rootS (xs ++ [s])) (xs.length + 1) (extS (xs ++ [s]) xs.length) = true := by
  have h := extS_ok (xs ++ [s]) xs.length (by simp)
  rw [List.take_left' rfl] at h
  simpa using h

theorem cells_new' (w : World) (C : List Value) (t : TypeId) {n : Nat} (hn : w.heap.size = n) : ∀ j u, C[j]? = some u → (w.alloc (.cells C.toArray t)).cell? ((⟨n, 0, none⟩ : Addr).add j) = some u := by subst hn; exact cells_new w C t
/-- a list with one more -/
def MoreAt (B : Nat) (w : World) (vo : Option Addr) (xs : List ByteArray) (s : ByteArray) (v : Value) (wx : World) : Prop := OwnS wx B v (xs ++ [s]) ∧ Below B w wx ∧ StrSl wx vo xs
set_option maxRecDepth 100000 in
set_option maxHeartbeats 4000000 in
theorem digestSplit_all (o : Option Addr) (n c : Nat) (S : Nat → ByteArray) (s : ByteArray) (w : World) (T : Tab w) (hn : n ≤ maxLen) (hs : ∀ i, i < n → (S i).size ≤ maxLen)
    (hcell : ∀ i, i < n → ∃ a, o = some a ∧ ∀ w', Below w.heap.size w w' → w'.cell? (a.add i) = some (.string (S i))) (hsz : s.size ≤ maxLen) :
    Calls Tryd.prog 11 #[.slice o n c, .string s] w fun r w' => r = .returned (.bool true) ∧ Below w.heap.size w w' := by
  obtain ⟨i0, hi0, hz0, hz1, hz2⟩ := info_parts infoStr
  have HT := Lib.hid T
  have HT0 := Lib.hid T
  have BB := Lib.hid (Below.refl w.heap.size w)
  have CF := Lib.hid (fun w' (hb : Below w.heap.size w w') => few_any o n c 40 S w' (by decide) hn hs (fun i hi => by
    obtain ⟨a, e, h⟩ := hcell i hi
    exact ⟨a, e, fun w2 hb2 => h w2 (Below.andThen hb hb2)⟩))
  have hx60 : s.extract 0 (min (s.size : Int) 60).toNat = cut60 s := rfl
  have m1 : 0 ≤ min (s.size : Int) 60 := by omega
  have m2 : min (s.size : Int) 60 ≤ (s.size : Int) := by omega
  unfold maxLen at hsz
  clear T hcell hs
  go_enter Tryd.func11, Tryd.ntmps11
  go_wp2_with fail
  with_reducible refine Calls.mono (sane_any _ HT.out) ?_
  rintro e w1 ⟨rfl, hb⟩
  replace HT := Lib.hid (HT.out.next hb)
  replace BB := Lib.hid (Below.andThen BB.out hb)
  clear hb
  go_wp2_with fail
  with_reducible refine Calls.mono (CF.out _ BB.out) ?_
  rintro e w2 ⟨v, rfl, hown, hb⟩
  have HT2 := Lib.hid (HT.out.next hb)
  have BB2 := Lib.hid (Below.andThen BB.out hb)
  clear CF HT BB hb
  obtain ⟨xs, hxs⟩ : ∃ xs, xs = fewS S (min n 40) := ⟨_, rfl⟩
  have hxl : xs.length ≤ 40 := by rw [hxs, fewS_length]; omega
  have hsm : ∀ x ∈ xs, x.size ≤ 60 := by rw [hxs]; exact fewS_small S _
  rw [← hxs] at hown
  obtain ⟨vo, vc, rfl, v1, v2, v3⟩ := hown.form
  have HS := Lib.hid hown.sl
  have HP := Lib.hid hown.parts
  clear hxs hown v3
  have HV := Lib.hid (And.intro v1 v2)
  clear v1 v2
  obtain ⟨s', hs'⟩ : ∃ s', s' = cut60 s := ⟨_, rfl⟩
  have hsl : s'.size ≤ 60 := by rw [hs']; exact cut60_size s
  rw [← hs'] at hx60
  clear hs'
  go_upto_region 4 with (fail)
  clear m1 m2 hx60
  go_cut [6] (fun v wx => MoreAt w.heap.size w vo xs s' v wx)
  case first =>
    have hbz := BB2.out.size
    have hy : (w2.alloc (.cells #[] 9)).ownsRow w2.heap.size 9 1 (.slice (some ⟨w2.heap.size, 0, none⟩) 0 0) 0 [] := World.ownsRow_made w2 #[] 0 (Nat.le_refl _) (Nat.zero_le _) rfl
    rcases HP.out with ⟨rfl, rfl, rfl⟩ | ⟨b, rfl, hl, hc⟩
    · have HY := Lib.hid hy
      have b1 : w2.heap.size < (w2.alloc (.cells #[] 9)).heap.size := by simp
      clear hy
      go_wp2_with (at_builtin; refine wpList_append_own _ rfl _ _ 26 rfl w2.heap.size 9 i0 (.string ⟨#[]⟩) 1 16 Tryd.underlying26 hi0 hz0 hz1 hz2 rfl (by decide) (.slice (some ⟨w2.heap.size, 0, none⟩) 0 0) 0 [] rfl (HY.out.alloc _) ⟨w2.heap.size + 1, 0, none⟩ 1 1 [.string s'] rfl rfl (cells_new' _ _ _ (by simp)) (by simp [Value.oneCell']) (by unfold maxLen; omega) (by omega) (by first | (simp; done) | (simp; omega)) ?_; intro v'' w4 hown' hgrow _; have K2 := Lib.hid (And.intro hown' hgrow); clear hown' hgrow)
      go_meet
      obtain ⟨o2, g2⟩ := K2.out
      have hbl := (((Below.refl w2.heap.size w2).alloc (Nat.le_refl _) (.cells #[] 9)).alloc (by simp) (.cells #[.string s'] 9)).grown g2 (by first | (simp; done) | (simp; omega)) (fun k hk => by simp [Value.ownBlock] at hk; omega)
      exact ⟨OwnS.lower (B := w2.heap.size) o2 hbz, Below.andThen BB2.out hbl, .inl rfl⟩
    · have hcx : ∀ j u, (xs.map strV)[j]? = some u → (w2.alloc (.cells #[] 9)).cell? ((⟨b, 0, none⟩ : Addr).add j) = some u := by
        intro j u hj
        rw [List.getElem?_map] at hj
        obtain ⟨x, hx, rfl⟩ := Option.map_eq_some_iff.1 hj
        have e : Addr.add ⟨b, 0, none⟩ j = ⟨b, 0 + j, none⟩ := by unfold Addr.add; split <;> simp_all
        rw [e]
        exact (((Below.refl _ w2).alloc (Nat.le_refl _) _).cell (p := ⟨b, 0 + j, none⟩) hl).trans (hc j x hx)
      go_wp2_with (first
        | (at_builtin; refine wpList_append_own _ rfl _ _ 26 rfl w2.heap.size 9 i0 (.string ⟨#[]⟩) 1 16 Tryd.underlying26 hi0 hz0 hz1 hz2 rfl (by decide) (.slice (some ⟨w2.heap.size, 0, none⟩) 0 0) 0 [] rfl hy ⟨b, 0, none⟩ xs.length vc (xs.map strV) rfl (by simp) hcx (strV_one _) (by unfold maxLen; omega) (by omega) (by first | (simp; done) | (simp; omega)) ?_; intro v' w3 hown' hgrow _; have K1 := Lib.hid (And.intro hown' hgrow); clear hown' hgrow)
        | (at_builtin; refine wpList_append_own _ rfl _ _ 26 rfl w2.heap.size 9 i0 (.string ⟨#[]⟩) 1 16 Tryd.underlying26 hi0 hz0 hz1 hz2 rfl (by decide) v' (0 + xs.length) ([] ++ xs.map strV) rfl (K1.out.1.alloc _) ⟨w3.heap.size, 0, none⟩ 1 1 [.string s'] rfl rfl (cells_new _ _ _) (by simp [Value.oneCell']) (by unfold maxLen; omega) (by omega) (by have := K1.out.2.size; simp at this ⊢; omega) ?_; intro v'' w4 hown' hgrow _; have K2 := Lib.hid (And.intro hown' hgrow); clear hown' hgrow))
      go_meet
      obtain ⟨o1, g1⟩ := K1.out
      obtain ⟨o2, g2⟩ := K2.out
      have hb3 := ((Below.refl w2.heap.size w2).alloc (Nat.le_refl _) (.cells #[] 9)).grown g1 (by simp) (fun k hk => by simp [Value.ownBlock] at hk; omega)
      have hb4 := (hb3.alloc hb3.size (.cells #[.string s'] 9)).grown g2 (by have := hb3.size; simp; omega) (own_block o1)
      refine ⟨OwnS.lower (B := w2.heap.size) ?_ hbz, Below.andThen BB2.out hb4, HS.out.next hb4⟩
      unfold OwnS
      rw [List.length_append, List.map_append]
      simpa using o2
  obtain ⟨hmo, hbm, hsx⟩ := hcut
  rename World => wc
  obtain ⟨ms, hms⟩ : ∃ ms, ms = xs ++ [s'] := ⟨_, rfl⟩
  have hml : ms.length = xs.length + 1 := by rw [hms]; simp
  have hsmm : ∀ x ∈ ms, x.size ≤ 2 ^ 38 := by
    intro x hx
    rw [hms] at hx
    rcases List.mem_append.1 hx with h | h
    · have := hsm x h; omega
    · rw [List.mem_singleton.1 h]; omega
  rw [← hms] at hmo
  obtain ⟨mo, mc, rfl, m1, m2, m3⟩ := hmo.form
  unfold maxLen at m2
  have HMM := Lib.hid (And.intro m1 m2)
  have HPM := Lib.hid hmo.parts
  have HM := Lib.hid hmo.sl
  have HX := Lib.hid hsx
  have HT := Lib.hid (HT0.out.next hbm)
  have BB := Lib.hid hbm
  have hel : (extS ms xs.length).length ≤ 2 ^ 40 := by have := extS_len (xs := ms) (m := xs.length) (k := 6) (by omega) (by omega); omega
  have CE := Lib.hid (fun w' (T' : Tab w') (h : StrSl w' mo ms) => Extension_in ms mo mc xs.length w' T' h m1 m2 (by omega) hsmm (by omega))
  have CR1 := Lib.hid (fun w' (T' : Tab w') (h : StrSl w' vo xs) => Root_any xs.length xs vo vc w' rfl T' h HV.out.1 (by have := HV.out.2; unfold maxLen at this; omega) (fun x h => by have := hsm x h; omega))
  have CR2 := Lib.hid (fun w' (T' : Tab w') (h : StrSl w' mo ms) => Root_any ms.length ms mo mc w' rfl T' h m1 m2 hsmm)
  have CV := Lib.hid (fun eo w' (T' : Tab w') (h : StrSl w' eo (extS ms xs.length)) => VerExt_all (rootS xs) (rootS ms) xs.length ms.length eo (extS ms xs.length).length (extS ms xs.length) w' T' (by omega) h hel (Nat.le_refl _))
  have e1 : verExtS (rootS xs) xs.length (rootS ms) ms.length (extS ms xs.length) = true := by
    have := extS_last xs s'
    rw [hms]
    simpa using this
  rw [e1] at CV
  generalize (extS ms xs.length).length = EL at *
  clear e1 hmo hbm hsx m1 m2 m3 HT2 BB2 HS HP HT0 hsm hel
  by_cases h0 : xs = []
  · have d0 : ((xs.length : Int) == 0) = true := by simp; exact h0
    have f1 : ((rootS ms).toList == (leafS s').toList) = true := by rw [hms, h0]; simp [rootS_one]
    have f2 : ((rootS xs).toList == (sumS ⟨#[]⟩).toList) = true := by rw [h0]; simp [rootS_nil]
    have CL := Lib.hid (fun w' (T' : Tab w') => Leaf_any s' w' T' (by omega))
    have CS := Lib.hid (fun w' (T' : Tab w') => Sum_any ⟨#[]⟩ w' T' (by decide))
    have HML := Lib.hid hml
    clear h0 hms hml
    generalize rootS ms = r1 at *
    generalize rootS xs = r0 at *
    generalize leafS s' = lf at *
    generalize sumS ⟨#[]⟩ = se at *
    go_wp2_with fail
    with_reducible refine Calls.mono (CE.out _ HT.out HM.out) ?_
    rintro e w5 ⟨eo, rfl, hE, hb⟩
    replace HT := Lib.hid (HT.out.next hb)
    replace HM := Lib.hid (HM.out.next hb)
    replace HX := Lib.hid (HX.out.next hb)
    replace BB := Lib.hid (Below.andThen BB.out hb)
    have HE := Lib.hid hE; clear hE
    clear hb
    go_wp2_with fail
    with_reducible refine Calls.mono (CR1.out _ HT.out HX.out) ?_
    rintro e w6 ⟨rfl, hb⟩
    replace HT := Lib.hid (HT.out.next hb)
    replace HM := Lib.hid (HM.out.next hb)
    replace HX := Lib.hid (HX.out.next hb)
    replace HE := Lib.hid (HE.out.next hb)
    replace BB := Lib.hid (Below.andThen BB.out hb)
    clear hb
    go_wp2_with fail
    with_reducible refine Calls.mono (CR2.out _ HT.out HM.out) ?_
    rintro e w7 ⟨rfl, hb⟩
    replace HT := Lib.hid (HT.out.next hb)
    replace HM := Lib.hid (HM.out.next hb)
    replace HX := Lib.hid (HX.out.next hb)
    replace HE := Lib.hid (HE.out.next hb)
    replace BB := Lib.hid (Below.andThen BB.out hb)
    clear hb
    go_wp2_with fail
    with_reducible refine Calls.mono (CV.out _ _ HT.out HE.out) ?_
    rintro e w8 ⟨rfl, hb⟩
    replace HT := Lib.hid (HT.out.next hb)
    replace HM := Lib.hid (HM.out.next hb)
    replace HX := Lib.hid (HX.out.next hb)
    replace HE := Lib.hid (HE.out.next hb)
    replace BB := Lib.hid (Below.andThen BB.out hb)
    clear hb
    go_wp2_with fail
    with_reducible refine Calls.mono (CR2.out _ HT.out HM.out) ?_
    rintro e w9 ⟨rfl, hb⟩
    replace HT := Lib.hid (HT.out.next hb)
    replace HM := Lib.hid (HM.out.next hb)
    replace HX := Lib.hid (HX.out.next hb)
    replace HE := Lib.hid (HE.out.next hb)
    replace BB := Lib.hid (Below.andThen BB.out hb)
    clear hb
    go_wp2_with fail
    with_reducible refine Calls.mono (CL.out _ HT.out) ?_
    rintro e w10 ⟨rfl, hb⟩
    replace HT := Lib.hid (HT.out.next hb)
    replace HM := Lib.hid (HM.out.next hb)
    replace HX := Lib.hid (HX.out.next hb)
    replace HE := Lib.hid (HE.out.next hb)
    replace BB := Lib.hid (Below.andThen BB.out hb)
    clear hb
    go_wp2_with fail
    with_reducible refine Calls.mono (CR1.out _ HT.out HX.out) ?_
    rintro e w11 ⟨rfl, hb⟩
    replace HT := Lib.hid (HT.out.next hb)
    replace HM := Lib.hid (HM.out.next hb)
    replace HX := Lib.hid (HX.out.next hb)
    replace HE := Lib.hid (HE.out.next hb)
    replace BB := Lib.hid (Below.andThen BB.out hb)
    clear hb
    go_wp2_with fail
    with_reducible refine Calls.mono (CS.out _ HT.out) ?_
    rintro e w12 ⟨rfl, hb⟩
    replace HT := Lib.hid (HT.out.next hb)
    replace HM := Lib.hid (HM.out.next hb)
    replace HX := Lib.hid (HX.out.next hb)
    replace HE := Lib.hid (HE.out.next hb)
    replace BB := Lib.hid (Below.andThen BB.out hb)
    clear hb
    go_wp2_with fail
    go_ret
    exact ⟨rfl, BB.out⟩
  · have h1 : 1 ≤ xs.length := by cases xs with | nil => exact absurd rfl h0 | cons a b => simp
    have d0 : ((xs.length : Int) == 0) = false := by simp; exact h0
    have h2 : 2 ≤ ms.length := by omega
    have hk1 := splitN_lt h2
    have hk0 := splitN_pos ms.length
    have CF := Lib.hid (fun w => left_any ms.length w h2 (by omega))
    obtain ⟨g, rfl⟩ : ∃ g, mo = some ⟨g, 0, none⟩ := by
      rcases HPM.out with ⟨_, _, h⟩ | ⟨g, h, _⟩
      · rw [h] at h2; simp at h2
      · exact ⟨g, h⟩
    obtain ⟨m1, m2⟩ := HMM.out
    have C1 := Lib.hid (fun w' (T' : Tab w') (h : StrSl w' (some ⟨g, 0, none⟩) ms) => Root_any (splitN ms.length) (ms.take (splitN ms.length)) (some ⟨g, 0, none⟩) mc w' (by rw [List.length_take]; omega) T' (take_sl _ h) (by omega) (by omega) (fun x h => hsmm x (List.mem_of_mem_take h)))
    have C2 := Lib.hid (fun w' (T' : Tab w') (h : StrSl w' (some ⟨g, 0, none⟩) ms) => Root_any (ms.length - splitN ms.length) (ms.drop (splitN ms.length)) (some ⟨g, splitN ms.length, none⟩) (mc - splitN ms.length) w' (by rw [List.length_drop]) T' (by have := drop_sl (splitN ms.length) h; rwa [Nat.zero_add] at this) (by omega) (by omega) (fun x h => hsmm x (List.mem_of_mem_drop h)))
    have CN := Lib.hid (fun w' (T' : Tab w') => Node_any (rootS (ms.take (splitN ms.length))) (rootS (ms.drop (splitN ms.length))) w' T' (by rw [rootS_size, rootS_size]; decide))
    rw [← rootS_split h2] at CN
    have q1 : splitN ms.length ≤ ms.length := by omega
    have q2 : splitN ms.length ≤ mc := by omega
    have q3 : ¬ mc = splitN ms.length := by omega
    have HML := Lib.hid hml
    clear h0 hms hml m1 hsmm hk1 HMM HPM
    generalize rootS (ms.take (splitN ms.length)) = ra at *
    generalize rootS (ms.drop (splitN ms.length)) = rb at *
    generalize rootS ms = r1 at *
    generalize rootS xs = r0 at *
    generalize splitN ms.length = K at *
    go_wp2_with fail
    with_reducible refine Calls.mono (CE.out _ HT.out HM.out) ?_
    rintro e w5 ⟨eo, rfl, hE, hb⟩
    replace HT := Lib.hid (HT.out.next hb)
    replace HM := Lib.hid (HM.out.next hb)
    replace HX := Lib.hid (HX.out.next hb)
    replace BB := Lib.hid (Below.andThen BB.out hb)
    have HE := Lib.hid hE; clear hE
    clear hb
    go_wp2_with fail
    with_reducible refine Calls.mono (CR1.out _ HT.out HX.out) ?_
    rintro e w6 ⟨rfl, hb⟩
    replace HT := Lib.hid (HT.out.next hb)
    replace HM := Lib.hid (HM.out.next hb)
    replace HX := Lib.hid (HX.out.next hb)
    replace HE := Lib.hid (HE.out.next hb)
    replace BB := Lib.hid (Below.andThen BB.out hb)
    clear hb
    go_wp2_with fail
    with_reducible refine Calls.mono (CR2.out _ HT.out HM.out) ?_
    rintro e w7 ⟨rfl, hb⟩
    replace HT := Lib.hid (HT.out.next hb)
    replace HM := Lib.hid (HM.out.next hb)
    replace HX := Lib.hid (HX.out.next hb)
    replace HE := Lib.hid (HE.out.next hb)
    replace BB := Lib.hid (Below.andThen BB.out hb)
    clear hb
    go_wp2_with fail
    with_reducible refine Calls.mono (CV.out _ _ HT.out HE.out) ?_
    rintro e w8 ⟨rfl, hb⟩
    replace HT := Lib.hid (HT.out.next hb)
    replace HM := Lib.hid (HM.out.next hb)
    replace HX := Lib.hid (HX.out.next hb)
    replace HE := Lib.hid (HE.out.next hb)
    replace BB := Lib.hid (Below.andThen BB.out hb)
    clear hb
    go_wp2_with fail
    with_reducible refine Calls.mono (CF.out _) ?_
    rintro e w9 ⟨rfl, rfl⟩
    clear CF CE CV
    go_wp2_with fail
    refine wp_region_kin (by kernel_rfl) (by kernel_rfl) w8.heap.size 0 (by simp) (fun hk => ?_)
    have D0 := Lib.hid (fun (k : Kin w8) => CR2.out k.it (HT.out.next k.below) (HM.out.next k.below))
    have D1 := Lib.hid (fun (k : Kin w8) => C1.out k.it (HT.out.next k.below) (HM.out.next k.below))
    have D2 := Lib.hid (fun (k : Kin w8) => C2.out k.it (HT.out.next k.below) (HM.out.next k.below))
    have D3 := Lib.hid (fun (k : Kin w8) => CN.out k.it (HT.out.next k.below))
    repeat (go_big_quiet_step (first | (go_at_call 27; first | with_reducible exact Calls.kin (D0.out _) | with_reducible exact Calls.kin (D1.out _) | with_reducible exact Calls.kin (D2.out _)) | (go_at_call 17; with_reducible exact Calls.kin (D3.out _))))
    refine wpQuiet_nil ?_
    clear hk
    intro w10 hb
    have HB2 := Lib.hid (Below.andThen BB.out hb)
    clear hb
    go_wp2_with fail
    go_ret
    exact ⟨rfl, HB2.out⟩

theorem digestSplit_law (o : Option Addr) (n c : Nat) (S : Nat → ByteArray) (s : ByteArray) (w : World) (T : Tab w) (hn : n ≤ maxLen) (hs : ∀ i, i < n → (S i).size ≤ maxLen)
    (hcell : ∀ i, i < n → ∃ a, o = some a ∧ ∀ w', Below w.heap.size w w' → w'.cell? (a.add i) = some (.string (S i))) (hsz : s.size ≤ maxLen) :
    Calls Tryd.prog 11 #[.slice o n c, .string s] w fun r w' => r = .returned (.bool true) ∧ Below w.heap.size w w' := digestSplit_all o n c S s w T hn hs hcell hsz
namespace digestSplit
set_option maxRecDepth 100000 in
theorem contract (H : Type) (enc : TypeId × Value → H) (W : World) (base : Nat) (args : Array Value) (ds gs : List (DataW H)) (before : List MemPlace)
    (hval : ∀ (j : Nat) t v, Tryd.f11.params[j]? = some t → args[j]? = some v → Value.okWide Tryd.prog W .any base t v)
    (hW : DataW.Whole enc Tryd.prog Tryd.f11.params.toList Rows.digestSplitSpec.vars false W args.toList ds gs before) (hL : laidMetH Tryd.prog Rows.digestSplitRow.laid W) :
    Calls Tryd.prog 11 args W fun e W' => ∃ v, e = .returned v ∧ Rows.digestSplitSpec.post enc Tryd.prog Tryd.f11 false true false false W args v W' := by
  have hW' := hW
  obtain ⟨p, q, hA0, hV, rfl, hfz, hnd⟩ := hW
  have hA : DataW.TrodAll enc Tryd.prog W 0 (fun _ => true) true Tryd.f11.params.toList args.toList ds p := hA0
  rw [Tryd.params11] at hA hval
  obtain ⟨v0, vs0, d0, ds0, p0, q0, hargs, rfl, rfl, h0, r0⟩ := trodAll_cons hA
  obtain ⟨v1, vs1, d1, ds1, p1, q1, rfl, rfl, rfl, h1, r1⟩ := trodAll_cons r0
  obtain ⟨rfl, rfl, rfl⟩ := trodAll_nil r1
  obtain rfl : args = #[v0, v1] := by cases args; simp_all
  obtain ⟨oa0, la0, ca0, a0, rfl, ma0, k0, ga0⟩ := open_strS Tryd.underlying26 Tryd.underlying9 (by kernel_rfl) (hval 0 _ _ rfl rfl) h0
  obtain ⟨a1, rfl, rfl, rfl, k1⟩ := Go.ChangeMaps.open_string Tryd.underlying9 (hval 1 _ _ rfl rfl) h1
  refine (digestSplit_law oa0 la0 ca0 a0 a1 W (tab hL) ma0 k0 ga0 k1).mono fun e W' ⟨he, hb⟩ => ?_
  subst he
  obtain ⟨rfl, _⟩ := trodVars_none hV
  exact ⟨_, rfl, law_post laidOut (by kernel_rfl) rfl (by kernel_rfl) Tryd.underlying4 hW' rfl hb⟩

def args0 : Array Value := #[.slice none 0 0, .string ⟨#[]⟩]
theorem laid_met (os : Os) : laidMet Tryd.prog Rows.digestSplitRow.laid ((laidWorld os).forCall (fun _ _ => 0) ⟨#[], args0, []⟩).memory :=
  laidMet_of_run' 8 (by kernel_rfl) (by kernel_rfl)
theorem reads (os : Os) {H : Type} (enc : TypeId × Value → H) : ∃ places, DataW.whole enc Tryd.prog ((laidWorld os).forCall (fun _ _ => 0) ⟨#[], args0, []⟩).memory Tryd.f11.params.toList Rows.digestSplitSpec.vars false args0.toList 8 = some ([.nil, .lit (.string [])], [], places) :=
  ⟨[], by kernel_rfl⟩

set_option maxRecDepth 100000 in
theorem lifted (os : Os) (started : os.Started) (H : Type) (enc : TypeId × Value → H) (F : Stop.Interp) :
    ReturnsInHanded {} Tryd.checked os 11 .any ((OpenSpec.ofChange Rows.digestSplitSpec).preRow enc Tryd.prog Tryd.f11 Rows.digestSplitRow.domain false Rows.digestSplitRow.laid) (((OpenSpec.ofChange Rows.digestSplitSpec).at F).post enc Tryd.prog Tryd.f11 false true false false) := by
  obtain ⟨places, hx⟩ := reads os enc
  refine returnsInHanded_of_row (C := Tryd.checked) (s := OpenSpec.ofChange Rows.digestSplitSpec) own started (by kernel_rfl) Tryd.func11
    (witness_row_at (enc := enc) (C := Tryd.checked) false (laidWorld os) args0 rfl (by kernel_rfl) (by kernel_rfl) (by kernel_rfl)
      (OpenSpec.preRow_of_cond 8 hx (by kernel_rfl) (fun k hk => by cases hk) (by kernel_rfl) (laid_met os))) ?_
  intro W base args ds gs before hval hW _ _ _ hL _ _
  exact contract H enc W base args ds gs before hval hW hL

theorem said : Rows.DigestSplitSaid :=
  OpenClaim.holds_of_cond 11 Tryd.f11 rfl rfl rfl rfl rfl rfl rfl ⟨rfl, rfl, rfl, rfl, rfl⟩ rfl rfl rfl rfl rfl (by kernel_rfl) Tryd.func11 (by kernel_rfl)
    (of_decide_eq_true (by kernel_rfl)) (by unfold Func.isWrapper; first | (rw [if_pos (by decide +kernel)]; kernel_rfl) | (rw [if_neg (by decide +kernel)]; exact ⟨rfl, rfl⟩))
    (fun os started H enc _ F => by rw [OpenClaim.pre_eq_preRow]; exact lifted os started H enc F)

theorem plain (f : FuncId) (fn : Func) (hf : Tryd.pinned.checked.prog.funcNamed "newswire/newswirelaw02.DigestSplit" = some f) (hfn : Tryd.pinned.checked.prog.funcs[f]? = some fn) :
    false = Tryd.pinned.checked.prog.looks [] ∧ ∀ (j : Nat) t, fn.params[j]? = some t → Tryd.pinned.checked.prog.wantsStandIn t = false := by
  obtain rfl : f = 11 := Option.some.inj ((show Tryd.prog.funcNamed "newswire/newswirelaw02.DigestSplit" = some 11 by kernel_rfl).symm.trans hf) |>.symm
  obtain rfl : fn = Tryd.f11 := (Option.some.inj (Tryd.func11.symm.trans hfn)).symm
  refine ⟨by kernel_rfl, fun j t ht => ?_⟩
  have all : (Tryd.f11.params.toList.all fun t => Tryd.prog.wantsStandIn t == false) = true := by kernel_rfl
  have := List.all_eq_true.1 all t (by rw [← Array.mem_def]; exact Array.mem_of_getElem? ht)
  exact (show Tryd.prog.wantsStandIn t = false by simpa using this)

/-- The statement. -/
theorem card : Rows.DigestSplitCardSaid :=
  Claim7.holds_tied_plain_at .later [] _ _ _ _ said (fun _ h => by cases h) (by kernel_rfl) (fun _ h => by cases h) digestSplit_row_tie rfl ⟨rfl, rfl⟩ (by kernel_rfl) rfl plain (by kernel_rfl)
end digestSplit
end Go.Proofs.YtojfblkmhdgjeaaDoor
