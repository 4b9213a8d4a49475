/- simple. -/
import Derived.Test.YtebdpdmkehfgfaaDoorWoA
set_option linter.unusedVariables false
set_option linter.unusedSimpArgs false
namespace Go.Proofs.YtebdpdmkehfgfaaDoor
open Go.RowKit
namespace Wo
theorem ones_len {k : Nat} (hk : k < 3) : (ones k).length = 20 := by rcases (show k = 0 ∨ k = 1 ∨ k = 2 by omega) with rfl | rfl | rfl <;> rfl
theorem tens_len {k : Nat} (hk : k < 3) : (tens k).length = 8 := by rcases (show k = 0 ∨ k = 1 ∨ k = 2 by omega) with rfl | rfl | rfl <;> rfl
/-- a search in a list, up to an index -/
theorem idx_none {x : B} {l : List B} : (∀ j, j < l.length → l.getD j [] ≠ x) → idx x l = none := by
  intro h
  unfold idx
  rw [List.findIdx?_eq_none_iff]
  intro y hy
  obtain ⟨j, hj, e⟩ := List.getElem_of_mem hy
  have := h j hj
  rw [List.getD_eq_getElem?_getD, List.getElem?_eq_getElem hj, Option.getD_some, e] at this
  simpa using this
theorem idx_some {x : B} {l : List B} {i : Nat} (hi : i < l.length) (hx : l.getD i [] = x) (h : ∀ j, j < i → l.getD j [] ≠ x) : idx x l = some i := by
  unfold idx
  rw [List.findIdx?_eq_some_iff_getElem]
  refine ⟨hi, ?_, fun j hj => ?_⟩
  · rw [List.getD_eq_getElem?_getD, List.getElem?_eq_getElem hi, Option.getD_some] at hx
    simpa using hx
  · have := h j hj
    rw [List.getD_eq_getElem?_getD, List.getElem?_eq_getElem (Nat.lt_trans hj hi), Option.getD_some] at this
    simpa using this
theorem getD_get {l : List B} {i : Nat} (hi : i < l.length) : l[i]? = some (l.getD i []) := by
  rw [List.getD_eq_getElem?_getD, List.getElem?_eq_getElem hi, Option.getD_some]
theorem row_get {l : List B} {i : Nat} (hi : i < l.length) : (l.map sV).toArray[i]? = some (sV (l.getD i [])) := by
  rw [List.getElem?_toArray, List.getElem?_map, getD_get hi]
  rfl
theorem infoOnes : (Tryd.prog.info? 87).map (·.size) = some 20 := by kernel_rfl
theorem infoTens : (Tryd.prog.info? 89).map (·.size) = some 8 := by kernel_rfl
set_option maxRecDepth 100000 in
set_option maxHeartbeats 2000000 in
theorem simple_any (k : Nat) (L : Int) (hk : k < 3) (hL : L = k + 1) (s : B) (w : World) (T : Tab w) : Calls Tryd.prog 72 #[.int .i64 L, .string (bs s)] w fun e w' => e = .returned (.int .i64 (simple k s)) ∧ w = w' := by
  have l := T.lt
  have C1 := Lib.hid (show ∀ i x, (ones k)[i]? = some x → w.cell? ⟨3, k * 20 + i, none⟩ = some (sV x) from fun i x hx => by
    have hi : i < 20 := by
      have := (List.getElem?_eq_some_iff.1 hx).1
      rw [ones_len hk] at this
      exact this
    have e : (ones k).getD i [] = x := by rw [List.getD_eq_getElem?_getD, hx]; rfl
    have := T.one k i hk hi
    rwa [e] at this)
  have C2 := Lib.hid (show ∀ i x, (tens k)[i]? = some x → w.cell? ⟨4, k * 8 + i, none⟩ = some (sV x) from fun i x hx => by
    have hi : i < 8 := by
      have := (List.getElem?_eq_some_iff.1 hx).1
      rw [tens_len hk] at this
      exact this
    have e : (tens k).getD i [] = x := by rw [List.getD_eq_getElem?_getD, hx]; rfl
    have := T.ten k i hk hi
    rwa [e] at this)
  have G1 := Lib.hid (fun i (hi : i < 20) => getD_get (l := ones k) (i := i) (by rw [ones_len hk]; exact hi))
  have G2 := Lib.hid (fun i (hi : i < 8) => getD_get (l := tens k) (i := i) (by rw [tens_len hk]; exact hi))
  have E1 := Lib.hid (fun i (hi : i < 20) => idx_some (x := s) (l := ones k) (i := i) (by rw [ones_len hk]; exact hi))
  have E2 := Lib.hid (fun i (hi : i < 8) => idx_some (x := s) (l := tens k) (i := i) (by rw [tens_len hk]; exact hi))
  have N1 := Lib.hid (idx_none (x := s) (l := ones k))
  have N2 := Lib.hid (idx_none (x := s) (l := tens k))
  have L1 := Lib.hid (ones_len hk)
  have L2 := Lib.hid (tens_len hk)
  have hS : simple k s = match idx s (ones k) with
    | some i => (i : Int)
    | none => match idx s (tens k) with
      | some i => 20 + 10 * (i : Int)
      | none => -1 := rfl
  have HS := Lib.hid hS
  generalize simple k s = S at *
  generalize ones k = l1 at *
  generalize tens k = l2 at *
  subst hL
  clear T hS
  go_enter Tryd.func72, Tryd.ntmps72
  go_wp2_with (refine wpList_load_part rfl _ _ rfl _ _ 20 _ rfl l1 L1.out Tryd.underlying87 infoOnes C1.out ?_)
  go_loopw [13] (fun iv wr => ∃ i : Nat, iv = .int .i64 i ∧ i ≤ 20 ∧ wr = w ∧ ∀ j, j < i → l1.getD j [] ≠ s) (fun iv _ => 20 - (intOf iv).toNat)
  case atStart => exact ⟨0, rfl, Nat.zero_le _, rfl, fun j hj => absurd hj (Nat.not_lt_zero _)⟩
  case round =>
    obtain ⟨i, rfl, hi, rfl, hne⟩ := hrel
    have HN := Lib.hid hne
    clear hne
    by_cases hlt : i < 20
    · have hg := G1.out i hlt
      have HE := Lib.hid (E1.out i hlt)
      generalize hx : l1.getD i [] = x at *
      have hr := run_index_strs wr 87 20 l1 i x Tryd.underlying87 hlt hg
      by_cases hs : x = s
      · have hb : ((bs x).toList == (bs s).toList) = true := by rw [beq_bs]; exact decide_eq_true hs
        have HV := Lib.hid (HS.out.trans (by rw [HE.out hs HN.out]))
        clear hs hx HE hg
        go_wp2_with fail
        go_ret
        exact ⟨retv (vint HV.out.symm), rfl⟩
      · have hb : ((bs x).toList == (bs s).toList) = false := by rw [beq_bs]; exact decide_eq_false hs
        have HM := Lib.hid (show ∀ j, j < i + 1 → l1.getD j [] ≠ s from fun j hj => by
          rcases Nat.lt_succ_iff_lt_or_eq.1 hj with h | rfl
          · exact HN.out j h
          · rw [hx]; exact hs)
        clear hs hx HE hg
        go_wp2_with fail
        go_roundw
        case rel => exact ⟨i + 1, by go_num, by omega, (by trivial), HM.out⟩
        case measure => simp [intOf]; omega
    · obtain rfl : i = 20 := by omega
      have e1 := Lib.hid (N1.out (by rw [L1.out]; exact HN.out))
      rw [e1.out] at HS
      clear E1 N1 G1 HN
      go_wp2_with (refine wpList_load_part rfl _ _ rfl _ _ 8 _ rfl l2 L2.out Tryd.underlying89 infoTens C2.out ?_)
      go_loopw [26] (fun iv wx => ∃ i : Nat, iv = .int .i64 i ∧ i ≤ 8 ∧ wx = wr ∧ ∀ j, j < i → l2.getD j [] ≠ s) (fun iv _ => 8 - (intOf iv).toNat)
      case atStart => exact ⟨0, rfl, Nat.zero_le _, (by trivial), fun j hj => absurd hj (Nat.not_lt_zero _)⟩
      case round =>
        obtain ⟨i, rfl, hi2, rfl, hne⟩ := hrel
        have HN := Lib.hid hne
        clear hne
        by_cases hlt : i < 8
        · have hg := G2.out i hlt
          have HE := Lib.hid (E2.out i hlt)
          generalize hx : l2.getD i [] = x at *
          have hr := run_index_strs wr 89 8 l2 i x Tryd.underlying89 hlt hg
          by_cases hs : x = s
          · have hb : ((bs x).toList == (bs s).toList) = true := by rw [beq_bs]; exact decide_eq_true hs
            have HV := Lib.hid (HS.out.trans (by rw [HE.out hs HN.out]))
            clear hs hx HE hg
            go_wp2_with fail
            go_ret
            exact ⟨retv (vint HV.out.symm), rfl⟩
          · have hb : ((bs x).toList == (bs s).toList) = false := by rw [beq_bs]; exact decide_eq_false hs
            have HM := Lib.hid (show ∀ j, j < i + 1 → l2.getD j [] ≠ s from fun j hj => by
              rcases Nat.lt_succ_iff_lt_or_eq.1 hj with h | rfl
              · exact HN.out j h
              · rw [hx]; exact hs)
            clear hs hx HE hg
            go_wp2_with fail
            go_roundw
            case rel => exact ⟨i + 1, by go_num, by omega, (by trivial), HM.out⟩
            case measure => simp [intOf]; omega
        · obtain rfl : i = 8 := by omega
          have e2 := Lib.hid (N2.out (by rw [L2.out]; exact HN.out))
          have HV := Lib.hid (HS.out.trans (by rw [e2.out]))
          clear E2 N2 G2 HN HS
          go_wp2_with fail
          go_ret
          exact ⟨retv (vint HV.out.symm), rfl⟩
end Wo
end Go.Proofs.YtebdpdmkehfgfaaDoor
