/- Verify. -/
import Derived.Test.YtojfblkmhdgjeaaDoorDigH
namespace Go.Proofs.YtojfblkmhdgjeaaDoor
open Go.RowKit Go.Shelf

set_option maxHeartbeats 400000 in
theorem digest_is (s : ByteArray) (w : World) : Calls Tryd.prog 66 #[.string s] w fun e w' => e = .returned (.bool (!(s.size == 32))) ∧ w = w' := by
  have HE := Lib.hid (show (!decide ((s.size : Int) = 32)) = !(s.size == 32) by
    rw [Bool.eq_iff_iff]
    simp
    omega)
  go_enter Tryd.func66, Tryd.ntmps66
  go_wp2
  go_ret
  exact ⟨retv (vbool HE.out), rfl⟩

theorem bytes_inj {a b : ByteArray} (h : a.toList = b.toList) : a = b := by
  rw [ByteArray.toList_eq, ByteArray.toList_eq] at h
  exact ByteArray.ext (Array.ext' h)
theorem bytes_beq (a b : ByteArray) : (a.toList == b.toList) = decide (a = b) := by
  rw [Bool.eq_iff_iff]
  simp only [beq_iff_eq, decide_eq_true_eq]
  exact ⟨bytes_inj, fun h => by rw [h]⟩
theorem allD_any (xs : List ByteArray) : (xs.any fun s => !(s.size == 32)) = !allD xs := by
  unfold allD
  rw [List.any_eq_not_all_not]
  simp
set_option maxHeartbeats 1000000 in
theorem digests_any (o : Option Addr) (c : Nat) (xs : List ByteArray) (w : World) (hS : StrSl w o xs) (hn : xs.length ≤ 2 ^ 46) :
    Calls Tryd.prog 52 #[.slice o xs.length c] w fun e w' => e = .returned (.bool (allD xs)) ∧ Below w.heap.size w w' := by
  have CC : Calls Tryd.prog 65 #[.slice o xs.length c, .func (.func 66) #[] #[]] w fun e w' => e = .returned (.bool (!allD xs)) ∧ Below w.heap.size w w' := by
    rcases hS with rfl | ⟨b, off, rfl, hl, hcell⟩
    · refine (Tryd.slices_ContainsFunc_empty (α := Nat) o c _ w).mono ?_
      rintro e w' ⟨rfl, rfl⟩
      exact ⟨rfl, Below.refl _ _⟩
    · refine (Tryd.slices_ContainsFunc strV (fun s => !(s.size == 32)) 66 #[] (enters_of Tryd.func66 (by kernel_rfl) rfl) b off xs.length c xs w ?_ (Nat.le_refl _) (by omega) ?_).mono ?_
      · intro W x _
        exact (digest_is x W).mono (fun e w' ⟨h, h2⟩ => ⟨h, 0, h2.symm⟩)
      · intro j hj
        rw [hcell j xs[j] (List.getElem?_eq_getElem hj), getElem!_pos xs j hj]
      · rintro e w' ⟨rfl, q, rfl⟩
        rw [List.take_length, allD_any]
        exact ⟨rfl, below_drewN (Below.refl _ _) q⟩
  have CH := Lib.hid CC
  clear CC hS
  cases ha : allD xs
  all_goals
    rw [ha] at CH
    clear ha
    go_enter Tryd.func52, Tryd.ntmps52
    go_wp2_with fail
    refine CH.out.mono ?_
    rintro e w2 ⟨rfl, hb⟩
    have HB := Lib.hid hb
    clear hb CH
    go_wp2
    go_ret
    exact ⟨rfl, HB.out⟩

theorem Verify_out (root s : ByteArray) (n i : Int) (o : Option Addr) (m c : Nat) (w : World) (h : i < 0 ∨ n ≤ i) : Calls Tryd.prog 29 #[.string root, .int .i64 n, .int .i64 i, .string s, .slice o m c] w fun e w' => e = .returned (.bool false) ∧ w = w' := by
  by_cases h1 : i < 0
  · have d1 : decide (i < 0) = true := by simpa using h1
    go_enter Tryd.func29, Tryd.ntmps29
    go_wp2
    go_ret
    exact ⟨rfl, rfl⟩
  · have d1 : decide (i < 0) = false := by simpa using h1
    have d2 : decide (n ≤ i) = true := by simp; omega
    go_enter Tryd.func29, Tryd.ntmps29
    go_wp2
    go_ret
    exact ⟨rfl, rfl⟩
theorem Verify_bad (root s : ByteArray) (n i : Int) (o : Option Addr) (c : Nat) (ps : List ByteArray) (w : World) (h0 : 0 ≤ i) (h1 : i < n) (hS : StrSl w o ps) (hn : ps.length ≤ 2 ^ 46) (ha : allD ps = false) :
    Calls Tryd.prog 29 #[.string root, .int .i64 n, .int .i64 i, .string s, .slice o ps.length c] w fun e w' => e = .returned (.bool false) ∧ Below w.heap.size w w' := by
  have d1 : decide (i < 0) = false := by simp; omega
  have d2 : decide (n ≤ i) = false := by simp; omega
  have CD := Lib.hid (digests_any o c ps w hS hn)
  rw [ha] at CD
  clear hS ha
  go_enter Tryd.func29, Tryd.ntmps29
  go_wp2_with fail
  with_reducible refine Calls.mono CD.out ?_
  rintro e w2 ⟨rfl, hb⟩
  have HB := Lib.hid hb
  clear hb CD
  go_wp2
  go_ret
  exact ⟨rfl, HB.out⟩

theorem boolV_one (xs : List Bool) : ∀ u ∈ xs.map Value.bool, u.oneCell' = true := by
  intro u hu
  obtain ⟨x, _, rfl⟩ := List.mem_map.1 hu
  rfl
set_option maxRecDepth 100000 in
set_option maxHeartbeats 2000000 in
theorem Verify_any (root s : ByteArray) (n i : Nat) (o : Option Addr) (c : Nat) (ps : List ByteArray) (w : World) (T : Tab w) (h1 : i < n) (hn : n ≤ 9223372036854775807) (hS : StrSl w o ps) (hl : ps.length ≤ 2 ^ 46) (hs : s.size ≤ 2 ^ 38) (ha : allD ps = true) :
    Calls Tryd.prog 29 #[.string root, .int .i64 n, .int .i64 i, .string s, .slice o ps.length c] w fun e w' => e = .returned (.bool (decide ((sidesN n i).length = ps.length) && decide (climb (leafS s) (sidesN n i) ps = root))) ∧ Below w.heap.size w w' := by
  obtain ⟨i0, hi0, hz0, hz1, hz2⟩ := info_parts infoBool
  have HT := Lib.hid T
  have HS := Lib.hid hS
  have d1 : decide ((i : Int) < 0) = false := by simp
  have d2 : decide (n ≤ i) = false := by simp; omega
  have CD := Lib.hid (digests_any o c ps w hS (by omega))
  rw [ha] at CD
  have HA := Lib.hid ha
  obtain ⟨LS, hLS⟩ : ∃ LS, LS = sidesN n i := ⟨_, rfl⟩
  have HLS := Lib.hid hLS
  have hll : LS.length ≤ 63 := by rw [hLS]; exact sidesN_len 63 n i (by omega)
  rw [← hLS]
  obtain ⟨RB, hRB⟩ : ∃ RB, RB = (decide (LS.length = ps.length) && decide (climb (leafS s) LS ps = root)) := ⟨_, rfl⟩
  rw [← hRB]
  have HRB := Lib.hid hRB
  clear T hS hLS ha hRB
  go_enter Tryd.func29, Tryd.ntmps29
  go_wp2_with fail
  with_reducible refine Calls.mono CD.out ?_
  rintro e w2 ⟨rfl, hb⟩
  have HB2 := Lib.hid hb
  clear hb CD
  go_wp2_with fail
  clear d1 d2
  go_loopw [11, 1, 2] (fun v nn jj wr => ∃ (V : Value) (bs : List Bool) (n' k : Nat), V = v ∧ nn = .int .i64 n' ∧ jj = .int .i64 k ∧ k < n' ∧ n' ≤ n ∧
      LS = sidesN n' k ++ bs.reverse ∧ wr.ownsRow w.heap.size 4 1 v bs.length (bs.map Value.bool) ∧ Below w.heap.size w wr)
    (fun _ nn _ _ => (intOf nn).toNat)
  case atStart => exact ⟨_, [], n, i, rfl, rfl, rfl, h1, Nat.le_refl _, by rw [HLS.out]; simp, World.ownsRow_nil _ _ _ _, HB2.out⟩
  case round =>
    clear HLS HB2 h1
    obtain ⟨V, bs, n', k, rfl, rfl, rfl, hk, hn', hLS, hown, hB⟩ := hrel
    have hbl : bs.length ≤ 63 := by rw [hLS] at hll; simp at hll; omega
    by_cases hlt : 2 ≤ n'
    · have h1 := splitN_lt hlt
      have h0 := splitN_pos n'
      have d3 : decide (1 < (n' : Int)) = true := by simp; omega
      have CP := Lib.hid (fun w => split_any n' w hlt (by omega))
      have HO := Lib.hid (And.intro hown hB)
      have hbs := hB.size
      by_cases hkl : k < splitN n'
      · have d4 : decide ((k : Int) < splitN n') = true := by simp; omega
        have HN := Lib.hid (show LS = sidesN (splitN n') k ++ (bs ++ [true]).reverse by rw [hLS, sidesN_left hlt hkl]; simp)
        generalize splitN n' = K at *
        clear hLS hown hB
        go_wp2_with fail
        refine (CP.out _).mono ?_
        rintro e w' ⟨rfl, rfl⟩
        clear CP
        rename World => wr
        go_wp2_with (at_builtin; refine wpList_append_own _ rfl _ _ 66 rfl w.heap.size 4 i0 (.bool false) 1 1 Tryd.underlying66 hi0 hz0 hz1 hz2 rfl (by decide) V _ _ rfl (HO.out.1.alloc _) ⟨wr.heap.size, 0, none⟩ 1 1 [_] rfl rfl (cells_new _ _ _) (by simp [Value.oneCell']) (by unfold maxLen; omega) (by omega) (by simp; omega) ?_; intro v' w1 hown' hgrow _; have KK := Lib.hid (And.intro hown' hgrow); clear hown' hgrow)
        refine ⟨⟨_, bs ++ [true], K, k, rfl, rfl, rfl, hkl, by omega, HN.out, ?_, ?_⟩, by simp [intOf]; omega⟩
        · rw [List.map_append, List.length_append]
          exact KK.out.1
        · exact (HO.out.2.alloc hbs _).grown KK.out.2 (by simp; omega) (own_block HO.out.1)
      · have d4 : decide ((k : Int) < splitN n') = false := by simp; omega
        have HN := Lib.hid (show LS = sidesN (n' - splitN n') (k - splitN n') ++ (bs ++ [false]).reverse by rw [hLS, sidesN_right hlt hkl]; simp)
        generalize splitN n' = K at *
        clear hLS hown hB
        go_wp2_with fail
        refine (CP.out _).mono ?_
        rintro e w' ⟨rfl, rfl⟩
        clear CP
        rename World => wr
        go_wp2_with (at_builtin; refine wpList_append_own _ rfl _ _ 66 rfl w.heap.size 4 i0 (.bool false) 1 1 Tryd.underlying66 hi0 hz0 hz1 hz2 rfl (by decide) V _ _ rfl (HO.out.1.alloc _) ⟨wr.heap.size, 0, none⟩ 1 1 [_] rfl rfl (cells_new _ _ _) (by simp [Value.oneCell']) (by unfold maxLen; omega) (by omega) (by simp; omega) ?_; intro v' w1 hown' hgrow _; have KK := Lib.hid (And.intro hown' hgrow); clear hown' hgrow)
        refine ⟨⟨_, bs ++ [false], n' - K, k - K, rfl, vint (by omega), vint (by omega), by omega, by omega, HN.out, ?_, ?_⟩, by simp [intOf]; omega⟩
        · rw [List.map_append, List.length_append]
          exact KK.out.1
        · exact (HO.out.2.alloc hbs _).grown KK.out.2 (by simp; omega) (own_block HO.out.1)
    · have h1 : n' = 1 := by omega
      have d3 : decide (1 < (n' : Int)) = false := by simp; omega
      have hLS' : LS = bs.reverse := by rw [hLS, sidesN_one (by omega)]; simp
      have hlb : LS.length = bs.length := by rw [hLS']; simp
      obtain ⟨vo, vc, rfl, v1, v2, v3⟩ := own_form hown
      have CR := Lib.hid (Rev_bool hown (by omega))
      rw [← hLS'] at CR
      have HB := Lib.hid hB
      clear hown hLS hLS' v1 v2 v3 hB h1 hk hn' hlt
      by_cases hm : LS.length = ps.length
      · have d5 : ((bs.length : Int) != ps.length) = false := by simp; omega
        have HM := Lib.hid hm
        have CL := Lib.hid (fun w T => Leaf_any s w T (by omega))
        have hpl : ps.length ≤ 63 := by omega
        have HBL := Lib.hid (show bs.length = ps.length by omega)
        clear hm hlb
        go_wp2_with fail
        with_reducible refine Calls.mono CR.out ?_
        rintro e w3 ⟨rfl, hs3, hb⟩
        have HB3 := Lib.hid (HB.out.trans hb)
        have HL3 := Lib.hid hs3
        have HT3 := Lib.hid (HT.out.next (HB.out.trans hb))
        clear CR hs3 hb
        go_wp2_with fail
        refine (CL.out _ HT3.out).mono ?_
        rintro e w4 ⟨rfl, hb⟩
        have HL4 := Lib.hid (HL3.out.next hb)
        have HB4 := Lib.hid (Below.andThen HB3.out hb)
        have HT4 := Lib.hid (HT3.out.next hb)
        clear CL hb HB3 HT3 HL3
        go_wp2_with fail
        go_loopw [13, 59] (fun v j wr => ∃ k : Nat, k ≤ ps.length ∧ j = .int .i64 k ∧ v = .string (climb (leafS s) (LS.take k) (ps.take k)) ∧ Below w4.heap.size w4 wr) (fun _ j _ => ps.length - (intOf j).toNat)
        case atStart => exact ⟨0, Nat.zero_le _, rfl, rfl, Below.refl _ _⟩
        case round =>
          obtain ⟨k, hk, rfl, rfl, hB⟩ := hrel
          by_cases hlt : k < ps.length
          · have hlt2 : k < LS.length := by rw [HM.out]; exact hlt
            rcases HS.out with h | ⟨b, off, rfl, hl2, hcell⟩
            · rw [h] at hlt; simp at hlt
            rcases HL4.out with h | ⟨b', off', rfl, hl3, hcell'⟩
            · rw [h] at hlt2; simp at hlt2
            have c1 := ((Below.andThen HB4.out hB).cell (p := ⟨b, off + k, none⟩) hl2).trans (hcell k _ (List.getElem?_eq_getElem hlt))
            have c2 := (hB.cell (p := ⟨b', off' + k, none⟩) hl3).trans (hcell' k _ (List.getElem?_eq_getElem hlt2))
            have hz : (climb (leafS s) (LS.take k) (ps.take k)).size = 32 := climb_size _ (leafS_size _) _ _
            have hz2 : ps[k].size = 32 := by
              have := List.all_eq_true.1 HA.out ps[k] (List.getElem_mem hlt)
              simpa using this
            have CJ := Lib.hid (join_any LS[k] (climb (leafS s) (LS.take k) (ps.take k)) ps[k] wr (HT4.out.next hB) (by omega))
            have e : joinV LS[k] (climb (leafS s) (LS.take k) (ps.take k)) ps[k] = climb (leafS s) (LS.take (k + 1)) (ps.take (k + 1)) := by
              rw [List.take_succ_eq_append_getElem hlt, List.take_succ_eq_append_getElem hlt2, climb_more _ _ _ _ _ (by rw [List.length_take, List.length_take]; omega)]
            have HE := Lib.hid e
            have HBB := Lib.hid hB
            rw [show (if LS[k] then nodeS (climb (leafS s) (LS.take k) (ps.take k)) ps[k] else nodeS ps[k] (climb (leafS s) (LS.take k) (ps.take k))) = climb (leafS s) (LS.take (k + 1)) (ps.take (k + 1)) from e] at CJ
            have CJ := CJ
            clear e hz hz2 hB hl2 hl3 hcell hcell' HE
            generalize hv2 : climb (leafS s) (LS.take (k + 1)) (ps.take (k + 1)) = v2 at *
            have HV2 := Lib.hid hv2
            clear hv2
            generalize climb (leafS s) (LS.take k) (ps.take k) = v1 at *
            generalize ps[k] = x at *
            generalize LS[k] = lf at *
            have q1 : k < bs.length := by have := HBL.out; omega
            go_wp2_with fail
            with_reducible refine Calls.mono CJ.out ?_
            rintro e w5 ⟨rfl, hb⟩
            have HB5 := Lib.hid (Below.andThen HBB.out hb)
            clear CJ hb HBB
            go_wp2_with fail
            go_roundw
            case rel => exact ⟨k + 1, hlt, by go_num, by rw [HV2.out], HB5.out⟩
            case measure => simp [intOf]; omega
          · obtain rfl : k = ps.length := by omega
            have hlt2 : LS.take ps.length = LS := by rw [List.take_of_length_le (by rw [HM.out]; exact Nat.le_refl _)]
            rw [List.take_length, hlt2]
            have HBB := Lib.hid (Below.andThen HB4.out hB)
            have HE := Lib.hid (show RB = decide (climb (leafS s) LS ps = root) by rw [HRB.out, HM.out]; simp)
            generalize climb (leafS s) LS ps = v1 at *
            clear hB hlt2
            go_wp2_with fail
            go_ret
            exact ⟨retv (vbool (by rw [bytes_beq, HE.out])), HBB.out⟩
      · have d5 : ((bs.length : Int) != ps.length) = true := by simp; omega
        have HE := Lib.hid (show RB = false by rw [HRB.out]; simp [hm])
        clear hm hlb
        go_wp2_with fail
        go_ret
        exact ⟨retv (vbool HE.out.symm), HB.out⟩
/-- Verify, for whatever numbers -/
theorem Verify_all (root s : ByteArray) (n i : Int) (o : Option Addr) (c : Nat) (ps : List ByteArray) (w : World) (T : Tab w) (hn : n ≤ 9223372036854775807) (hS : StrSl w o ps) (hl : ps.length ≤ 2 ^ 46) (hs : s.size ≤ 2 ^ 38) :
    Calls Tryd.prog 29 #[.string root, .int .i64 n, .int .i64 i, .string s, .slice o ps.length c] w fun e w' => e = .returned (.bool (verifyS root n i s ps)) ∧ Below w.heap.size w w' := by
  by_cases h : i < 0 ∨ n ≤ i
  · refine (Verify_out root s n i o ps.length c w h).mono ?_
    rintro e w' ⟨rfl, rfl⟩
    refine ⟨?_, Below.refl _ _⟩
    unfold verifyS
    rcases h with h | h
    · rw [decide_eq_false (show ¬ 0 ≤ i by omega)]; rfl
    · rw [decide_eq_false (show ¬ i < n by omega)]; simp
  · cases ha : allD ps
    · refine (Verify_bad root s n i o c ps w (by omega) (by omega) hS hl ha).mono ?_
      rintro e w' ⟨rfl, hb⟩
      refine ⟨?_, hb⟩
      unfold verifyS
      rw [ha]
      simp
    · obtain ⟨n', rfl⟩ : ∃ k : Nat, n = k := ⟨n.toNat, by omega⟩
      obtain ⟨i', rfl⟩ : ∃ k : Nat, i = k := ⟨i.toNat, by omega⟩
      refine (Verify_any root s n' i' o c ps w T (by omega) (by omega) hS hl hs ha).mono ?_
      rintro e w' ⟨rfl, hb⟩
      refine ⟨?_, hb⟩
      unfold verifyS
      rw [ha]
      rw [decide_eq_true (show (0 : Int) ≤ i' by omega), decide_eq_true (show (i' : Int) < n' by omega)]
      simp
end Go.Proofs.YtojfblkmhdgjeaaDoor
