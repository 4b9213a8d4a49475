/- VerifyExtension, whole. -/
import Derived.Test.YtojfblkmhdgjeaaDoorDigK
namespace Go.Proofs.YtojfblkmhdgjeaaDoor
open Go.RowKit Go.Shelf

set_option maxRecDepth 100000 in
set_option maxHeartbeats 4000000 in
theorem VerExt_any (old root : ByteArray) (m n : Nat) (o : Option Addr) (c : Nat) (ps : List ByteArray) (w : World) (T : Tab w) (h0 : 1 ≤ m) (h1 : m ≤ n) (hn : n ≤ 9223372036854775807) (ha : allD [old, root] = true) (hS : StrSl w o ps) (hl : ps.length ≤ 2 ^ 40) (hpc : ps.length ≤ c) (hb : allD ps = true) :
    Calls Tryd.prog 31 #[.string old, .int .i64 m, .string root, .int .i64 n, .slice o ps.length c] w fun e w' => e = .returned (.bool (extTest old m root n ps)) ∧ Below w.heap.size w w' := by
  obtain ⟨i0, hi0, hz0, hz1, hz2⟩ := info_parts infoBool
  have d1 : decide ((m : Int) < 0) = false := by simp
  have d2 : decide (n < m) = false := by simp; omega
  have d3 : ((m : Int) == 0) = false := by simp; omega
  have CD := Lib.hid (fun b w h => digests_two b old root w h)
  have CE := Lib.hid (fun w' (h : StrSl w' o ps) => digests_any o c ps w' h (by omega))
  rw [ha] at CD
  rw [hb] at CE
  have hold : old.size = 32 := by simpa [allD] using (List.all_eq_true.1 ha old (by simp))
  have HOLD := Lib.hid hold
  have HA := Lib.hid hb
  have HS := Lib.hid hS
  have HT := Lib.hid T
  obtain ⟨RB, hRB⟩ : ∃ RB, RB = extTest old m root n ps := ⟨_, rfl⟩
  obtain ⟨XS, hXS⟩ : ∃ XS, XS = xsN n m := ⟨_, rfl⟩
  obtain ⟨WX, hWX⟩ : ∃ WX, WX = wholeN n m := ⟨_, rfl⟩
  have hxl : XS.length ≤ 63 := by rw [hXS]; exact xsN_len 63 n m h0 (by omega)
  rw [← hRB]
  unfold extTest at hRB
  rw [← hXS, ← hWX] at hRB
  have HRB := Lib.hid hRB
  have HXS := Lib.hid hXS
  have HWX := Lib.hid hWX
  clear ha hb hS hRB T hold hXS hWX
  go_enter Tryd.func31, Tryd.ntmps31
  go_wp2_with fail
  go_step3
  go_wp2_with fail
  with_reducible refine Calls.mono (CD.out _ _ (Row.new _ _ _)) ?_
  rintro e w2 ⟨rfl, hb⟩
  have HB := Lib.hid (Below.andThen ((Below.refl _ w).alloc (Nat.le_refl _) _) hb)
  clear hb CD
  go_wp2_with fail
  with_reducible refine Calls.mono (CE.out _ (HS.out.next HB.out)) ?_
  rintro e w3 ⟨rfl, hb⟩
  have HB2 := Lib.hid (Below.andThen HB.out hb)
  clear hb CE HB
  go_wp2_with fail
  go_step3
  go_wp2_with fail
  clear d1 d2 d3
  go_loopw [11, 12, 3, 1] (fun v whv nn mm wr => ∃ (V : Value) (bs : List Bool) (n' m' : Nat) (wh : Bool), V = v ∧ whv = .bool wh ∧ nn = .int .i64 n' ∧ mm = .int .i64 m' ∧ 1 ≤ m' ∧ m' ≤ n' ∧ n' ≤ n ∧
      XS = xsN n' m' ++ bs.reverse ∧ WX = (wh && wholeN n' m') ∧ wr.ownsRow w.heap.size 4 1 v bs.length (bs.map Value.bool) ∧ Below w.heap.size w wr)
    (fun _ _ nn _ _ => (intOf nn).toNat)
  case atStart => exact ⟨_, [], n, m, true, rfl, rfl, rfl, rfl, h0, h1, Nat.le_refl _, by rw [HXS.out]; simp, by rw [HWX.out]; rfl, World.ownsRow_nil _ _ _ _, HB2.out⟩
  case round =>
    clear HXS HWX HB2 h0 h1
    obtain ⟨V, bs, n', m', wh, rfl, rfl, rfl, rfl, hm1, hmn, hn', hXS, hWX, hown, hB⟩ := hrel
    have hbl : bs.length ≤ 63 := by rw [hXS] at hxl; simp at hxl; omega
    have hbs := hB.size
    by_cases hlt : m' < n'
    · have h2 : 2 ≤ n' := by omega
      have h1 := splitN_lt h2
      have h0 := splitN_pos n'
      have d3 : decide ((m' : Int) = n') = false := by simp; omega
      have d3' : ((m' : Int) == n') = false := by simp; omega
      have CP := Lib.hid (fun w => split_any n' w h2 (by omega))
      have HO := Lib.hid (And.intro hown hB)
      by_cases hkl : m' ≤ splitN n'
      · have d4 : decide ((m' : Int) ≤ splitN n') = true := by simp; omega
        have HN := Lib.hid (show XS = xsN (splitN n') m' ++ (bs ++ [true]).reverse by rw [hXS, xsN_left hm1 hlt hkl]; simp)
        have HW := Lib.hid (show WX = (wh && wholeN (splitN n') m') by rw [hWX, wholeN_left hm1 hlt hkl])
        generalize splitN n' = K at *
        clear hXS hWX hown hB
        go_wp2_with fail
        with_reducible refine Calls.mono (CP.out _) ?_
        rintro e w' ⟨rfl, rfl⟩
        clear CP
        rename World => wr
        go_wp2_with (at_builtin; refine wpList_append_own _ rfl _ _ 66 rfl w.heap.size 4 i0 (.bool false) 1 1 Tryd.underlying66 hi0 hz0 hz1 hz2 rfl (by decide) V _ _ rfl (HO.out.1.alloc _) ⟨wr.heap.size, 0, none⟩ 1 1 [_] rfl rfl (cells_new _ _ _) (by simp [Value.oneCell']) (by unfold maxLen; omega) (by omega) (by simp; omega) ?_; intro v' w1 hown' hgrow _; have KK := Lib.hid (And.intro hown' hgrow); clear hown' hgrow)
        refine ⟨⟨_, bs ++ [true], K, m', wh, rfl, rfl, rfl, rfl, hm1, hkl, by omega, HN.out, HW.out, ?_, ?_⟩, by simp [intOf]; omega⟩
        · rw [List.map_append, List.length_append]
          exact KK.out.1
        · exact (HO.out.2.alloc hbs _).grown KK.out.2 (by simp; omega) (own_block HO.out.1)
      · have d4 : decide ((m' : Int) ≤ splitN n') = false := by simp; omega
        have HN := Lib.hid (show XS = xsN (n' - splitN n') (m' - splitN n') ++ (bs ++ [false]).reverse by rw [hXS, xsN_right hm1 hlt hkl]; simp)
        have HW := Lib.hid (show WX = false by rw [hWX, wholeN_right hm1 hlt hkl]; simp)
        generalize splitN n' = K at *
        clear hXS hWX hown hB
        go_wp2_with fail
        with_reducible refine Calls.mono (CP.out _) ?_
        rintro e w' ⟨rfl, rfl⟩
        clear CP
        rename World => wr
        go_wp2_with (at_builtin; refine wpList_append_own _ rfl _ _ 66 rfl w.heap.size 4 i0 (.bool false) 1 1 Tryd.underlying66 hi0 hz0 hz1 hz2 rfl (by decide) V _ _ rfl (HO.out.1.alloc _) ⟨wr.heap.size, 0, none⟩ 1 1 [_] rfl rfl (cells_new _ _ _) (by simp [Value.oneCell']) (by unfold maxLen; omega) (by omega) (by simp; omega) ?_; intro v' w1 hown' hgrow _; have KK := Lib.hid (And.intro hown' hgrow); clear hown' hgrow)
        refine ⟨⟨_, bs ++ [false], n' - K, m' - K, false, rfl, rfl, vint (by omega), vint (by omega), by omega, by omega, by omega, HN.out, by rw [HW.out]; rfl, ?_, ?_⟩, by simp [intOf]; omega⟩
        · rw [List.map_append, List.length_append]
          exact KK.out.1
        · exact (HO.out.2.alloc hbs _).grown KK.out.2 (by simp; omega) (own_block HO.out.1)
    · have h2 : m' = n' := by omega
      have d3 : decide ((m' : Int) = n') = true := by simp; omega
      have d3' : ((m' : Int) == n') = true := by simp; omega
      have hXS' : XS = bs.reverse := by rw [hXS, xsN_end (by omega)]; simp
      have hWX' : WX = wh := by rw [hWX, wholeN_end (by omega)]; simp
      have hlb : bs.length = XS.length := by rw [hXS']; simp
      obtain ⟨vo, vc, rfl, v1, v2, v3⟩ := own_form hown
      have CR := Lib.hid (Rev_bool hown (by omega))
      rw [← hXS'] at CR
      rw [hlb] at CR ⊢
      have HB := Lib.hid hB
      rw [hWX'] at HRB
      clear hown hXS hXS' hWX hWX' v1 v2 v3 hB h2 hlt hlb hbl
      go_wp2_with fail
      with_reducible refine Calls.mono CR.out ?_
      rintro e w3 ⟨rfl, hs3, hb⟩
      have HB3 := Lib.hid (HB.out.trans hb)
      have HL3 := Lib.hid hs3
      have HT3 := Lib.hid (HT.out.next (HB.out.trans hb))
      have HS3 := Lib.hid (HS.out.next (HB.out.trans hb))
      clear CR hs3 hb
      cases wh
      · rcases List.eq_nil_or_concat ps with hp | ⟨_, _, hp⟩
        · have d5 : ((ps.length : Int) == 0) = true := by simp; exact hp
          have HE := Lib.hid (show RB = false by rw [HRB.out, hp]; rfl)
          clear hp
          go_wp2_with fail
          rw [Exit.noGoto_ret]
          go_ret
          exact ⟨retv (vbool HE.out.symm), HB3.out⟩
        · obtain ⟨f, r, hps⟩ : ∃ f r, ps = f :: r := by
            cases ps with
            | nil => simp at hp
            | cons f r => exact ⟨f, r, rfl⟩
          have hlr : r.length = ps.length - 1 := by rw [hps]; simp
          have hp1 : 1 ≤ ps.length := by rw [hps]; simp
          have d5 : ((ps.length : Int) == 0) = false := by simp; rw [hps]; simp
          rcases HS3.out with h | ⟨b, off, rfl, hl2, hcell⟩
          · rw [h] at hp1; simp at hp1
          have c0 := hcell 0 f (by rw [hps]; rfl)
          rw [Nat.add_zero] at c0
          have hfz : f.size = 32 := by simpa using (List.all_eq_true.1 HA.out f (by rw [hps]; simp))
          have har : allD r = true := by
            have := HA.out
            rw [hps] at this
            unfold allD at this ⊢
            simp at this ⊢
            exact this.2
          have HE := Lib.hid (show RB = (decide (XS.length = r.length) && (decide (shortV f XS r = old) && decide (climb f XS r = root))) by rw [HRB.out, hps]; simp)
          have hsr : ∀ k x, r[k]? = some x → w3.cell? ⟨b, off + 1 + k, none⟩ = some (.string x) := fun k x hx => by
            have := hcell (k + 1) x (by rw [hps]; exact hx)
            rw [show off + 1 + k = off + (k + 1) by omega]
            exact this
          have hq : ∀ po pc wx, Below w3.heap.size w3 wx → StrSl w3 po r → XS.length = r.length → Calls Tryd.prog 57 #[.string old, .string root, .string f, .slice vo XS.length vc, .slice po (ps.length - 1) pc] wx fun e w' => e = .returned (.bool RB) ∧ Below wx.heap.size wx w' := by
            intro po pc wx hb hpo hm
            have HE2 : RB = (decide (shortV f XS r = old) && decide (climb f XS r = root)) := by rw [HE.out]; simp [hm]
            rw [HE2, ← hlr]
            exact extends_any old root f vo po vc pc XS r wx (HT3.out.next hb) (HL3.out.next hb) (hpo.next hb) hm (by omega) hfz har
          have HQ := Lib.hid hq
          have HSR := Lib.hid (show StrSl w3 (some ⟨b, off + 1, none⟩) r from .inr ⟨b, off + 1, rfl, hl2, hsr⟩)
          have HR0 := Lib.hid (show c = 1 → r = [] from fun h => List.eq_nil_of_length_eq_zero (by omega))
          have HLR := Lib.hid hlr
          clear hq hsr hlr hps hcell har hfz hp
          by_cases hc1 : c = 1
          · have HR1 := Lib.hid (HR0.out hc1)
            have HP0 := Lib.hid (show ps.length - 1 = 0 by omega)
            subst hc1
            by_cases hm : XS = []
            · subst hm
              have CX := HQ.out (some ⟨b, off, none⟩) 0 w3.drew (Below.refl _ _).drew (.inl HR1.out) (by rw [HR1.out]; rfl)
              rw [HP0.out, List.length_nil] at CX
              have HCX := Lib.hid CX
              clear CX HQ
              go_upto_region 17 with (fail)
              go_region
              go_wp2_with fail
              with_reducible refine Calls.mono HCX.out ?_
              rintro e w4 ⟨rfl, hb⟩
              have HB4 := Lib.hid (Below.andThen HB3.out.drew hb)
              clear hb HCX
              go_wp2_with fail
              rw [Exit.noGoto_ret]
              go_ret
              exact ⟨rfl, HB4.out⟩
            · have d6 : ((XS.length : Int) == 0) = false := by simp; exact hm
              have HF := Lib.hid (show RB = false by rw [HE.out, HR1.out]; simp [hm])
              clear hm
              go_upto_region 17 with (fail)
              go_region
              go_wp2_with fail
              rw [Exit.noGoto_ret]
              go_ret
              exact ⟨retv (vbool HF.out.symm), HB3.out.drew⟩
          · by_cases hm : XS.length = ps.length - 1
            · have d6 : ((XS.length : Int) == ((ps.length - 1 : Nat) : Int)) = true := by simp; omega
              have HM := Lib.hid (hm.trans HLR.out.symm)
              clear hm
              go_upto_region 17 with (fail)
              go_region
              go_wp2_with fail
              with_reducible refine Calls.mono (HQ.out _ _ _ (Below.refl _ _).drew HSR.out HM.out) ?_
              rintro e w4 ⟨rfl, hb⟩
              have HB4 := Lib.hid (Below.andThen HB3.out.drew hb)
              clear hb HQ
              go_wp2_with fail
              rw [Exit.noGoto_ret]
              go_ret
              exact ⟨rfl, HB4.out⟩
            · have d6 : ((XS.length : Int) == ((ps.length - 1 : Nat) : Int)) = false := by simp; omega
              have HF := Lib.hid (show RB = false by rw [HE.out]; simp [show ¬ XS.length = r.length from fun h => hm (h.trans HLR.out)])
              clear hm
              go_upto_region 17 with (fail)
              go_region
              go_wp2_with fail
              rw [Exit.noGoto_ret]
              go_ret
              exact ⟨retv (vbool HF.out.symm), HB3.out.drew⟩
      · by_cases hm : XS.length = ps.length
        · have d5 : ((XS.length : Int) == ps.length) = true := by simp; omega
          have HE := Lib.hid (show RB = (decide (shortV old XS ps = old) && decide (climb old XS ps = root)) by rw [HRB.out]; simp [hm])
          have CX := Lib.hid (extends_any old root old vo o vc c XS ps w3 HT3.out HL3.out HS3.out hm hl HOLD.out HA.out)
          rw [← HE.out] at CX
          clear hm
          go_wp2_with fail
          with_reducible refine Calls.mono CX.out ?_
          rintro e w4 ⟨rfl, hb⟩
          have HB4 := Lib.hid (Below.andThen HB3.out hb)
          clear hb CX
          go_wp2_with fail
          rw [Exit.noGoto_ret]
          go_ret
          exact ⟨rfl, HB4.out⟩
        · have d5 : ((XS.length : Int) == ps.length) = false := by simp; omega
          have HE := Lib.hid (show RB = false by rw [HRB.out]; simp [hm])
          clear hm
          go_wp2_with fail
          rw [Exit.noGoto_ret]
          go_ret
          exact ⟨retv (vbool HE.out.symm), HB3.out⟩
/-- VerifyExtension, for whatever numbers -/
theorem VerExt_all (old root : ByteArray) (m n : Int) (o : Option Addr) (c : Nat) (ps : List ByteArray) (w : World) (T : Tab w) (hn : n ≤ 9223372036854775807) (hS : StrSl w o ps) (hl : ps.length ≤ 2 ^ 40) (hpc : ps.length ≤ c) :
    Calls Tryd.prog 31 #[.string old, .int .i64 m, .string root, .int .i64 n, .slice o ps.length c] w fun e w' => e = .returned (.bool (verExtS old m root n ps)) ∧ Below w.heap.size w w' := by
  by_cases h : m < 0 ∨ n < m
  · have e : verExtS old m root n ps = false := by
      unfold verExtS
      rcases h with h | h
      · rw [decide_eq_false (show ¬ 0 ≤ m by omega)]; rfl
      · rw [decide_eq_false (show ¬ m ≤ n by omega)]; simp
    rw [e]
    exact VerExt_out old root m n o ps.length c w h
  · cases ha : allD [old, root]
    · have e : verExtS old m root n ps = false := by unfold verExtS; rw [ha]; simp
      rw [e]
      exact VerExt_bad old root m n o ps.length c w (by omega) (by omega) ha
    · cases hb : allD ps
      · have e : verExtS old m root n ps = false := by unfold verExtS; rw [hb]; simp
        rw [e]
        exact VerExt_bad2 old root m n o c ps w (by omega) (by omega) ha hS (by omega) hb
      · by_cases h0 : m = 0
        · subst h0
          have e : verExtS old 0 root n ps = (decide (ps = []) && decide (old = sumS ⟨#[]⟩)) := by
            unfold verExtS
            rw [ha, hb, decide_eq_true (show (0 : Int) ≤ n by omega)]
            simp
          rw [e]
          exact VerExt_none old root n o c ps w T (by omega) ha hS (by omega) hb
        · obtain ⟨n', rfl⟩ : ∃ k : Nat, n = k := ⟨n.toNat, by omega⟩
          obtain ⟨m', rfl⟩ : ∃ k : Nat, m = k := ⟨m.toNat, by omega⟩
          have e : verExtS old m' root n' ps = extTest old m' root n' ps := by
            unfold verExtS
            rw [ha, hb, decide_eq_true (show (0 : Int) ≤ m' by omega), decide_eq_true (show (m' : Int) ≤ n' by omega), if_neg h0]
            simp
          rw [e]
          exact VerExt_any old root m' n' o c ps w T (by omega) (by omega) (by omega) ha hS hl hpc hb
end Go.Proofs.YtojfblkmhdgjeaaDoor
