/- VerifyExtension. -/
import Derived.Test.YtojfblkmhdgjeaaDoorDigI
import Derived.Test.YtojfblkmhdgjeaaDoorDigQ
import Derived.WalkMore
import Derived.Deep.LoopGhost
namespace Go.Proofs.YtojfblkmhdgjeaaDoor
open Go.RowKit Go.Shelf

set_option maxRecDepth 100000 in
set_option maxHeartbeats 2000000 in
theorem extends_any (old root first : ByteArray) (lo po : Option Addr) (lc pc : Nat) (ls : List Bool) (ps : List ByteArray) (w : World) (T : Tab w) (hL : EncSl Value.bool w lo ls) (hP : StrSl w po ps) (hlen : ls.length = ps.length) (hl : ps.length ≤ 2 ^ 40) (hf : first.size = 32) (ha : allD ps = true) :
    Calls Tryd.prog 57 #[.string old, .string root, .string first, .slice lo ls.length lc, .slice po ps.length pc] w fun e w' =>
      e = .returned (.bool (decide (shortV first ls ps = old) && decide (climb first ls ps = root))) ∧ Below w.heap.size w w' := by
  have HT := Lib.hid T
  have HLS := Lib.hid hL
  have HPS := Lib.hid hP
  have HA := Lib.hid ha
  have HM := Lib.hid hlen
  have HF := Lib.hid hf
  obtain ⟨RB, hRB⟩ : ∃ RB, RB = (decide (shortV first ls ps = old) && decide (climb first ls ps = root)) := ⟨_, rfl⟩
  rw [← hRB]
  have HRB := Lib.hid hRB
  clear T hL hP ha hlen hf hRB
  go_enter Tryd.func57, Tryd.ntmps57
  go_wp2_with fail
  go_loopw [11, 12, 19] (fun sv v j wr => ∃ k : Nat, k ≤ ps.length ∧ j = .int .i64 k ∧ sv = .string (shortV first (ls.take k) (ps.take k)) ∧ v = .string (climb first (ls.take k) (ps.take k)) ∧ Below w.heap.size w wr) (fun _ _ j _ => ps.length - (intOf j).toNat)
  case atStart => exact ⟨0, Nat.zero_le _, rfl, rfl, rfl, Below.refl _ _⟩
  case round =>
    obtain ⟨k, hk, rfl, rfl, rfl, hB⟩ := hrel
    by_cases hlt : k < ps.length
    · have hlt2 : k < ls.length := by rw [HM.out]; exact hlt
      rcases HPS.out with h | ⟨b, off, rfl, hl2, hcell⟩
      · rw [h] at hlt; simp at hlt
      rcases HLS.out with h | ⟨b', off', rfl, hl3, hcell'⟩
      · rw [h] at hlt2; simp at hlt2
      have c1 := (hB.cell (p := ⟨b, off + k, none⟩) hl2).trans (hcell k _ (List.getElem?_eq_getElem hlt))
      have c2 := (hB.cell (p := ⟨b', off' + k, none⟩) hl3).trans (hcell' k _ (List.getElem?_eq_getElem hlt2))
      have hz : (climb first (ls.take k) (ps.take k)).size = 32 := climb_size _ HF.out _ _
      have hz1 : (shortV first (ls.take k) (ps.take k)).size = 32 := shortV_size _ HF.out _ _
      have hz2 : ps[k].size = 32 := by
        have := List.all_eq_true.1 HA.out ps[k] (List.getElem_mem hlt)
        simpa using this
      have hll : (ls.take k).length = (ps.take k).length := by rw [List.length_take, List.length_take]; omega
      have CJ := Lib.hid (fun wx (hb : Below w.heap.size w wx) => join_any ls[k] (climb first (ls.take k) (ps.take k)) ps[k] wx (HT.out.next hb) (by omega))
      have CN := Lib.hid (fun wx (hb : Below w.heap.size w wx) => Node_any ps[k] (shortV first (ls.take k) (ps.take k)) wx (HT.out.next hb) (by omega))
      have e1 : climb first (ls.take (k + 1)) (ps.take (k + 1)) = (if ls[k] then nodeS (climb first (ls.take k) (ps.take k)) ps[k] else nodeS ps[k] (climb first (ls.take k) (ps.take k))) := by
        rw [List.take_succ_eq_append_getElem hlt, List.take_succ_eq_append_getElem hlt2, climb_more _ _ _ _ _ hll]
        rfl
      have e2 : shortV first (ls.take (k + 1)) (ps.take (k + 1)) = (if ls[k] then shortV first (ls.take k) (ps.take k) else nodeS ps[k] (shortV first (ls.take k) (ps.take k))) := by
        rw [List.take_succ_eq_append_getElem hlt, List.take_succ_eq_append_getElem hlt2, shortV_more _ _ _ _ _ hll]
      have c3 := Lib.hid (hcell' k _ (List.getElem?_eq_getElem hlt2))
      have HL3 := Lib.hid hl3
      have HE1 := Lib.hid e1
      have HE2 := Lib.hid e2
      have HB := Lib.hid hB
      clear e1 e2 hz hz1 hz2 hB hl2 hcell hcell' hll
      generalize hv2 : climb first (ls.take (k + 1)) (ps.take (k + 1)) = v2 at *
      generalize hs2 : shortV first (ls.take (k + 1)) (ps.take (k + 1)) = s2 at *
      have HV2 := Lib.hid hv2
      have HS2 := Lib.hid hs2
      clear hv2 hs2
      generalize climb first (ls.take k) (ps.take k) = v1 at *
      generalize shortV first (ls.take k) (ps.take k) = s1 at *
      generalize ps[k] = x at *
      generalize ls[k] = lf at *
      cases lf
      all_goals
        simp only [Bool.false_eq_true, if_false, if_true] at HE1 HE2 CJ
        rw [← HE1.out] at CJ
        go_wp2_with fail
        with_reducible refine Calls.mono (CJ.out _ HB.out) ?_
        rintro e w5 ⟨rfl, hb⟩
        have HB5 := Lib.hid (Below.andThen HB.out hb)
        have c4 := (HB5.out.cell (p := ⟨b', off' + k, none⟩) HL3.out).trans c3.out
        clear CJ hb HB
        go_wp2_with fail
      · rw [← HE2.out] at CN
        with_reducible refine Calls.mono (CN.out _ HB5.out) ?_
        rintro e w6 ⟨rfl, hb⟩
        have HB6 := Lib.hid (Below.andThen HB5.out hb)
        clear CN hb HB5 c4
        go_wp2_with fail
        refine ⟨⟨k + 1, hlt, by go_num, by rw [HS2.out], by rw [HV2.out], HB6.out⟩, by simp [intOf]; omega⟩
      · refine ⟨⟨k + 1, hlt, by go_num, by rw [HS2.out, HE2.out], by rw [HV2.out], HB5.out⟩, by simp [intOf]; omega⟩
    · obtain rfl : k = ps.length := by omega
      have hlt2 : ls.take ps.length = ls := by rw [List.take_of_length_le (by rw [HM.out]; exact Nat.le_refl _)]
      rw [List.take_length, hlt2]
      have HB := Lib.hid hB
      clear hB hlt2
      generalize climb first ls ps = v1 at *
      generalize shortV first ls ps = s1 at *
      by_cases hs : s1 = old
      · have f1 : (s1.toList == old.toList) = true := by rw [bytes_beq]; simpa using hs
        have HE := Lib.hid (show RB = (v1.toList == root.toList) by rw [HRB.out, decide_eq_true hs, bytes_beq]; rfl)
        clear hs
        go_wp2_with fail
        go_ret
        exact ⟨retv (vbool HE.out.symm), HB.out⟩
      · have f1 : (s1.toList == old.toList) = false := by rw [bytes_beq]; simpa using hs
        have HE := Lib.hid (show RB = false by rw [HRB.out, decide_eq_false hs]; rfl)
        clear hs
        go_wp2_with fail
        go_ret
        exact ⟨retv (vbool HE.out.symm), HB.out⟩

/-! ### VerifyExtension: what is refused at once -/
theorem VerExt_out (old root : ByteArray) (m n : Int) (o : Option Addr) (k c : Nat) (w : World) (h : m < 0 ∨ n < m) : Calls Tryd.prog 31 #[.string old, .int .i64 m, .string root, .int .i64 n, .slice o k c] w fun e w' => e = .returned (.bool false) ∧ Below w.heap.size w w' := by
  by_cases h1 : m < 0
  · have d1 : decide (m < 0) = true := by simpa using h1
    go_enter Tryd.func31, Tryd.ntmps31
    go_wp2_with fail
    go_step3
    go_wp2
    rw [Exit.noGoto_ret]
    go_ret
    exact ⟨rfl, Below.refl _ _⟩
  · have d1 : decide (m < 0) = false := by simpa using h1
    have d2 : decide (n < m) = true := by simp; omega
    go_enter Tryd.func31, Tryd.ntmps31
    go_wp2_with fail
    go_step3
    go_wp2
    rw [Exit.noGoto_ret]
    go_ret
    exact ⟨rfl, Below.refl _ _⟩
theorem digests_two (b : Nat) (x y : ByteArray) (w : World) (hR : Row w b 9 [.string x, .string y]) : Calls Tryd.prog 52 #[.slice (some ⟨b, 0, none⟩) 2 2] w fun e w' => e = .returned (.bool (allD [x, y])) ∧ Below w.heap.size w w' :=
  digests_any (some ⟨b, 0, none⟩) 2 [x, y] w (.inr ⟨b, 0, rfl, hR.lt, hR.str (xs := [x, y])⟩) (by simp)
theorem VerExt_bad (old root : ByteArray) (m n : Int) (o : Option Addr) (k c : Nat) (w : World) (h0 : 0 ≤ m) (h1 : m ≤ n) (ha : allD [old, root] = false) : Calls Tryd.prog 31 #[.string old, .int .i64 m, .string root, .int .i64 n, .slice o k c] w fun e w' => e = .returned (.bool false) ∧ Below w.heap.size w w' := by
  have d1 : decide (m < 0) = false := by simp; omega
  have d2 : decide (n < m) = false := by simp; omega
  have CD := Lib.hid (fun b w h => digests_two b old root w h)
  rw [ha] at CD
  clear ha
  go_enter Tryd.func31, Tryd.ntmps31
  go_wp2_with fail
  go_step3
  go_wp2_with fail
  with_reducible refine Calls.mono (CD.out _ _ (Row.new _ _ _)) ?_
  rintro e w2 ⟨rfl, hb⟩
  have HB := Lib.hid (Below.andThen ((Below.refl _ w).alloc (Nat.le_refl _) _) hb)
  clear hb CD
  go_wp2
  rw [Exit.noGoto_ret]
  go_ret
  exact ⟨rfl, HB.out⟩
theorem VerExt_bad2 (old root : ByteArray) (m n : Int) (o : Option Addr) (c : Nat) (ps : List ByteArray) (w : World) (h0 : 0 ≤ m) (h1 : m ≤ n) (ha : allD [old, root] = true) (hS : StrSl w o ps) (hn : ps.length ≤ 2 ^ 46) (hb : allD ps = false) : Calls Tryd.prog 31 #[.string old, .int .i64 m, .string root, .int .i64 n, .slice o ps.length c] w fun e w' => e = .returned (.bool false) ∧ Below w.heap.size w w' := by
  have d1 : decide (m < 0) = false := by simp; omega
  have d2 : decide (n < m) = false := by simp; omega
  have CD := Lib.hid (fun b w h => digests_two b old root w h)
  have CE := Lib.hid (fun w' (h : StrSl w' o ps) => digests_any o c ps w' h hn)
  rw [ha] at CD
  rw [hb] at CE
  have HS := Lib.hid hS
  clear ha hb hS
  go_enter Tryd.func31, Tryd.ntmps31
  go_wp2_with fail
  go_step3
  go_wp2_with fail
  with_reducible refine Calls.mono (CD.out _ _ (Row.new _ _ _)) ?_
  rintro e w2 ⟨rfl, hb⟩
  have HB := Lib.hid (Below.andThen ((Below.refl _ w).alloc (Nat.le_refl _) _) hb)
  clear hb CD
  go_wp2_with fail
  with_reducible refine Calls.mono (CE.out _ (HS.out.next HB.out)) ?_
  rintro e w3 ⟨rfl, hb⟩
  have HB2 := Lib.hid (Below.andThen HB.out hb)
  clear hb CE
  go_wp2
  rw [Exit.noGoto_ret]
  go_ret
  exact ⟨rfl, HB2.out⟩
/-- no old entries -/
theorem VerExt_none (old root : ByteArray) (n : Int) (o : Option Addr) (c : Nat) (ps : List ByteArray) (w : World) (T : Tab w) (h1 : 0 ≤ n) (ha : allD [old, root] = true) (hS : StrSl w o ps) (hn : ps.length ≤ 2 ^ 46) (hb : allD ps = true) : Calls Tryd.prog 31 #[.string old, .int .i64 0, .string root, .int .i64 n, .slice o ps.length c] w fun e w' => e = .returned (.bool (decide (ps = []) && decide (old = sumS ⟨#[]⟩))) ∧ Below w.heap.size w w' := by
  have d2 : decide (n < 0) = false := by simp; omega
  have CD := Lib.hid (fun b w h => digests_two b old root w h)
  have CE := Lib.hid (fun w' (h : StrSl w' o ps) => digests_any o c ps w' h hn)
  have CS := Lib.hid (fun w' T => Sum_any ⟨#[]⟩ w' T (by decide))
  rw [ha] at CD
  rw [hb] at CE
  have HS := Lib.hid hS
  have HT := Lib.hid T
  obtain ⟨RB, hRB⟩ : ∃ RB, RB = (decide (ps = []) && decide (old = sumS ⟨#[]⟩)) := ⟨_, rfl⟩
  rw [← hRB]
  have HRB := Lib.hid hRB
  clear ha hb hS hRB T
  by_cases hp : ps.length = 0
  · have d3 : ((ps.length : Int) == 0) = true := by simp; exact List.eq_nil_of_length_eq_zero hp
    have HE := Lib.hid (show RB = (old.toList == (sumS ⟨#[]⟩).toList) by rw [HRB.out, List.eq_nil_of_length_eq_zero hp, bytes_beq]; simp)
    clear hp HRB
    generalize sumS ⟨#[]⟩ = sv at *
    go_enter Tryd.func31, Tryd.ntmps31
    go_wp2_with fail
    go_step3
    go_wp2_with fail
    with_reducible refine Calls.mono (CD.out _ _ (Row.new _ _ _)) ?_
    rintro e w2 ⟨rfl, hb⟩
    have HB := Lib.hid (Below.andThen ((Below.refl _ w).alloc (Nat.le_refl _) _) hb)
    clear hb CD
    go_wp2_with fail
    with_reducible refine Calls.mono (CE.out _ (HS.out.next HB.out)) ?_
    rintro e w3 ⟨rfl, hb⟩
    have HB2 := Lib.hid (Below.andThen HB.out hb)
    clear hb CE
    go_wp2_with fail
    with_reducible refine Calls.mono (CS.out _ (HT.out.next HB2.out)) ?_
    rintro e w4 ⟨rfl, hb⟩
    have HB3 := Lib.hid (Below.andThen HB2.out hb)
    clear hb CS
    go_wp2
    rw [Exit.noGoto_ret]
    go_ret
    exact ⟨retv (vbool HE.out.symm), HB3.out⟩
  · have d3 : ((ps.length : Int) == 0) = false := by simp; intro h; exact hp (by rw [h]; rfl)
    have HE := Lib.hid (show RB = false by rw [HRB.out, decide_eq_false (show ¬ ps = [] from fun h => hp (by rw [h]; rfl))]; rfl)
    clear hp HRB
    go_enter Tryd.func31, Tryd.ntmps31
    go_wp2_with fail
    go_step3
    go_wp2_with fail
    with_reducible refine Calls.mono (CD.out _ _ (Row.new _ _ _)) ?_
    rintro e w2 ⟨rfl, hb⟩
    have HB := Lib.hid (Below.andThen ((Below.refl _ w).alloc (Nat.le_refl _) _) hb)
    clear hb CD
    go_wp2_with fail
    with_reducible refine Calls.mono (CE.out _ (HS.out.next HB.out)) ?_
    rintro e w3 ⟨rfl, hb⟩
    have HB2 := Lib.hid (Below.andThen HB.out hb)
    clear hb CE
    go_wp2
    rw [Exit.noGoto_ret]
    go_ret
    exact ⟨retv (vbool HE.out.symm), HB2.out⟩
end Go.Proofs.YtojfblkmhdgjeaaDoor
