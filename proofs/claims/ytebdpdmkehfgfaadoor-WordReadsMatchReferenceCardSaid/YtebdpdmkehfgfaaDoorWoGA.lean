/- The reference's tables and its words of numbers below 100. -/
/- The reference's words of numbers below 100, tongue 0. -/
/- The reference's words of numbers below 100, tongue 1. -/
/- The reference's words of numbers below 100, tongue 2. -/
import Derived.Test.YtebdpdmkehfgfaaDoorWoZ
set_option linter.unusedVariables false
set_option linter.unusedSimpArgs false
namespace Go.Proofs.YtebdpdmkehfgfaaDoor
open Go.RowKit
namespace Wo
theorem ssl_at {w : World} {b : Nat} {l : List B} (h : SSl w (some ⟨b, 0, none⟩) l) {i : Nat} (hi : i < l.length) : b < w.heap.size ∧ w.cell? ⟨b, i, none⟩ = some (sV (l.getD i [])) := by
  rcases h with rfl | ⟨b', off, e, hl, hc⟩
  · exact absurd hi (by simp)
  · cases e
    have := hc i _ (getD_get hi)
    rw [Nat.zero_add] at this
    exact ⟨hl, this⟩
def tensR (k : Nat) : List B := [] :: [] :: tens k
def hundR : List B := [] :: hundreds
set_option maxRecDepth 100000 in
set_option maxHeartbeats 1000000 in
theorem runits (k : Nat) (L : Int) (hk : k < 3) (hL : L = 1 + k) (w : World) : Calls Tryd.prog 34 #[.int .i64 L] w fun e w' => ∃ b, e = .returned (.slice (some ⟨b, 0, none⟩) 20 20) ∧ SSl w' (some ⟨b, 0, none⟩) (ones k) ∧ Below w.heap.size w w' := by
  subst hL
  rcases (show k = 0 ∨ k = 1 ∨ k = 2 by omega) with rfl | rfl | rfl
  all_goals
    go_enter Tryd.func34, Tryd.ntmps34
    go_wp2_with fail
    go_ret
    exact ⟨_, rfl, ssl_new _ _ (ones _), (Below.refl _ _).alloc (Nat.le_refl _) _⟩
set_option maxRecDepth 100000 in
set_option maxHeartbeats 1000000 in
theorem rtens (k : Nat) (L : Int) (hk : k < 3) (hL : L = 1 + k) (w : World) : Calls Tryd.prog 62 #[.int .i64 L] w fun e w' => ∃ b, e = .returned (.slice (some ⟨b, 0, none⟩) 10 10) ∧ SSl w' (some ⟨b, 0, none⟩) (tensR k) ∧ Below w.heap.size w w' := by
  subst hL
  rcases (show k = 0 ∨ k = 1 ∨ k = 2 by omega) with rfl | rfl | rfl
  all_goals
    go_enter Tryd.func62, Tryd.ntmps62
    go_wp2_with fail
    go_ret
    exact ⟨_, rfl, ssl_new _ _ (tensR _), (Below.refl _ _).alloc (Nat.le_refl _) _⟩
theorem rhundreds (w : World) : Calls Tryd.prog 48 #[] w fun e w' => ∃ b, e = .returned (.slice (some ⟨b, 0, none⟩) 10 10) ∧ SSl w' (some ⟨b, 0, none⟩) hundR ∧ Below w.heap.size w w' := by
  go_enter Tryd.func48, Tryd.ntmps48
  go_wp2_with fail
  go_ret
  exact ⟨_, rfl, ssl_new _ _ hundR, (Below.refl _ _).alloc (Nat.le_refl _) _⟩
theorem ones_el {k i : Nat} (hk : k < 3) : ((ones k).getD i []).length ≤ 20 := by
  refine getD_small ?_ i
  rcases (show k = 0 ∨ k = 1 ∨ k = 2 by omega) with rfl | rfl | rfl <;> decide
theorem tens_el {k i : Nat} (hk : k < 3) : ((tens k).getD i []).length ≤ 20 := by
  refine getD_small ?_ i
  rcases (show k = 0 ∨ k = 1 ∨ k = 2 by omega) with rfl | rfl | rfl <;> decide
end Wo
end Go.Proofs.YtebdpdmkehfgfaaDoor
set_option linter.unusedVariables false
set_option linter.unusedSimpArgs false
namespace Go.Proofs.YtebdpdmkehfgfaaDoor
open Go.RowKit
namespace Wo
set_option maxRecDepth 100000 in
set_option maxHeartbeats 8000000 in
theorem rbelow0 (n : Nat) (ends : Bool) (N : Int) (hN : N = n) (h0 : 0 < n) (hn : n < 100) (w : World) : Calls Tryd.prog 47 #[.int .i64 1, .int .i64 N, .bool ends] w fun e w' => ∃ v, e = .returned v ∧ OwnS w' w.heap.size v (rbelow 0 n ends) ∧ Below w.heap.size w w' := by
  subst hN
  have CU := Lib.hid (fun W => runits 0 1 (by decide) rfl W)
  have CT := Lib.hid (fun W => rtens 0 1 (by decide) rfl W)
  have BB := Lib.hid (Below.refl w.heap.size w)
  obtain ⟨d, hd⟩ : ∃ d, n % 10 = d := ⟨_, rfl⟩
  obtain ⟨q, hq⟩ : ∃ q, n / 10 = q := ⟨_, rfl⟩
  have di : (n : Int) % 10 = d := by omega
  have qi : (n : Int) / 10 = q := by omega
  have HD := Lib.hid (show rbelow 0 n ends = (if n = 1 then [rlast 0 n ends] else if n < 20 then [(ones 0).getD n []] else if d = 0 then [rten 0 n] else [rten 0 n ++ [45] ++ rlast 0 n ends]) from by
    rw [← hd]
    rfl)
  have HX := Lib.hid (show (ones 0).getD d [] = (ones 0).getD d [] from rfl)
  have zo := Lib.hid (fun i => ones_el (k := 0) (i := i) (by decide))
  have zt := Lib.hid (fun i => tens_el (k := 0) (i := i) (by decide))
  generalize hx : (ones 0).getD d [] = x at *
  have HX1 := Lib.hid hx
  have zx : (bs x).size ≤ 20 := by rw [bs_size, ← hx]; exact zo.out d
  have LO := Lib.hid (ones_len (k := 0) (by decide))
  have LT := Lib.hid (show (tensR 0).length = 10 from rfl)
  have HT1 := Lib.hid (show 20 ≤ n → (tensR 0).getD q [] = rten 0 n from fun h => by
    unfold rten
    rw [hq]
    obtain ⟨j, rfl⟩ : ∃ j, q = j + 2 := ⟨q - 2, by omega⟩
    rfl)
  have zT : (bs (rten 0 n)).size ≤ 20 := by rw [bs_size]; exact zt.out _
  have HRL := Lib.hid (show rlast 0 n ends = (if d = 1 ∧ (0 : Nat) = 1 ∧ ends = false then ein else if d = 1 ∧ (0 : Nat) = 2 ∧ ends = false then un else x) from by rw [← hx, ← hd]; rfl)
  have d10 : d < 10 := by omega
  generalize rbelow 0 n ends = D at *
  generalize rten 0 n = t at *
  generalize rlast 0 n ends = l at *
  clear hx hd hq HX
  cases ends
  · skip
    by_cases c1 : d = 1
    · have c1b : ((d : Int) == 1) = true := by rw [c1]; rfl
      have HL := Lib.hid (show l = x from HRL.out.trans (by simp [c1]))
      have C1 := Lib.hid c1
      clear c1
      by_cases c2 : n = 1
      · have c2b : ((n : Int) == 1) = true := by rw [c2]; rfl
        have HE := Lib.hid (show D = [x] from HD.out.trans ((if_pos c2).trans (by rw [HL.out])))
        clear c2
        go_enter Tryd.func47, Tryd.ntmps47
        go_wp2_with fail
        with_reducible refine Calls.mono (CU.out _) ?_
        rintro e w2 ⟨b2, rfl, hS, hb⟩
        obtain ⟨hlb2, hcb2⟩ := ssl_at hS (i := d) (by rw [LO.out]; omega)
        rw [HX1.out] at hcb2
        replace BB := Lib.hid (Below.andThen BB.out hb)
        clear hS hb
        go_wp2_with fail
        go_ret
        exact ⟨_, rfl, by rw [HE.out]; exact made_own w2 [x] BB.out.size rfl rfl (by decide), BB.out.alloc BB.out.size _⟩
      · have c2b : ((n : Int) == 1) = false := by simp; omega
        replace HD := Lib.hid (HD.out.trans (if_neg c2))
        by_cases c3 : n < 20
        · have c3b : (n : Int) < 20 := by omega
          obtain ⟨y, hy⟩ : ∃ y, (ones 0).getD n [] = y := ⟨_, rfl⟩
          have HY := Lib.hid hy
          have HE := Lib.hid (show D = [y] from HD.out.trans ((if_pos c3).trans (by rw [hy])))
          clear hy
          go_enter Tryd.func47, Tryd.ntmps47
          go_wp2_with fail
          with_reducible refine Calls.mono (CU.out _) ?_
          rintro e w2 ⟨b2, rfl, hS, hb⟩
          obtain ⟨hlb2, hcb2⟩ := ssl_at hS (i := d) (by rw [LO.out]; omega)
          rw [HX1.out] at hcb2
          replace BB := Lib.hid (Below.andThen BB.out hb)
          clear hS hb
          go_wp2_with fail
          with_reducible refine Calls.mono (CU.out _) ?_
          rintro e w3 ⟨b3, rfl, hS, hb⟩
          obtain ⟨hlb3, hcb3⟩ := ssl_at hS (i := n) (by rw [LO.out]; omega)
          rw [HY.out] at hcb3
          replace BB := Lib.hid (Below.andThen BB.out hb)
          clear hS hb
          go_wp2_with fail
          go_ret
          exact ⟨_, rfl, by rw [HE.out]; exact made_own w3 [y] BB.out.size rfl rfl (by decide), BB.out.alloc BB.out.size _⟩
        · have c3b : ¬ (n : Int) < 20 := by omega
          replace HD := Lib.hid (HD.out.trans (if_neg c3))
          have HT2 := Lib.hid (HT1.out (by omega))
          have c4 : ¬ d = 0 := by have := C1.out; omega
          have c4b : ((d : Int) == 0) = false := by simp; omega
          replace HD := Lib.hid (HD.out.trans (if_neg c4))
          have HE := Lib.hid (show D = [t ++ [45] ++ x] from HD.out.trans (by rw [HL.out]))
          go_enter Tryd.func47, Tryd.ntmps47
          go_wp2_with fail
          with_reducible refine Calls.mono (CU.out _) ?_
          rintro e w2 ⟨b2, rfl, hS, hb⟩
          obtain ⟨hlb2, hcb2⟩ := ssl_at hS (i := d) (by rw [LO.out]; omega)
          rw [HX1.out] at hcb2
          replace BB := Lib.hid (Below.andThen BB.out hb)
          clear hS hb
          go_wp2_with fail
          with_reducible refine Calls.mono (CT.out _) ?_
          rintro e w3 ⟨b3, rfl, hS, hb⟩
          obtain ⟨hlb3, hcb3⟩ := ssl_at hS (i := q) (by rw [LT.out]; omega)
          rw [HT2.out] at hcb3
          replace BB := Lib.hid (Below.andThen BB.out hb)
          clear hS hb
          go_wp2_with fail
          rw [show bs t ++ (⟨#[45]⟩ : ByteArray) ++ bs x = bs (t ++ [45] ++ x) from by rw [← bs_append, ← bs_append]; rfl]
          go_ret
          exact ⟨_, rfl, by rw [HE.out]; exact made_own w3 [t ++ [45] ++ x] BB.out.size rfl rfl (by decide), BB.out.alloc BB.out.size _⟩
    · have c1b : ((d : Int) == 1) = false := by simp; omega
      have HL := Lib.hid (show l = x from HRL.out.trans (by simp [c1]))
      have C1 := Lib.hid c1
      clear c1
      by_cases c2 : n = 1
      · have c2b : ((n : Int) == 1) = true := by rw [c2]; rfl
        have HE := Lib.hid (show D = [x] from HD.out.trans ((if_pos c2).trans (by rw [HL.out])))
        clear c2
        go_enter Tryd.func47, Tryd.ntmps47
        go_wp2_with fail
        with_reducible refine Calls.mono (CU.out _) ?_
        rintro e w2 ⟨b2, rfl, hS, hb⟩
        obtain ⟨hlb2, hcb2⟩ := ssl_at hS (i := d) (by rw [LO.out]; omega)
        rw [HX1.out] at hcb2
        replace BB := Lib.hid (Below.andThen BB.out hb)
        clear hS hb
        go_wp2_with fail
        go_ret
        exact ⟨_, rfl, by rw [HE.out]; exact made_own w2 [x] BB.out.size rfl rfl (by decide), BB.out.alloc BB.out.size _⟩
      · have c2b : ((n : Int) == 1) = false := by simp; omega
        replace HD := Lib.hid (HD.out.trans (if_neg c2))
        by_cases c3 : n < 20
        · have c3b : (n : Int) < 20 := by omega
          obtain ⟨y, hy⟩ : ∃ y, (ones 0).getD n [] = y := ⟨_, rfl⟩
          have HY := Lib.hid hy
          have HE := Lib.hid (show D = [y] from HD.out.trans ((if_pos c3).trans (by rw [hy])))
          clear hy
          go_enter Tryd.func47, Tryd.ntmps47
          go_wp2_with fail
          with_reducible refine Calls.mono (CU.out _) ?_
          rintro e w2 ⟨b2, rfl, hS, hb⟩
          obtain ⟨hlb2, hcb2⟩ := ssl_at hS (i := d) (by rw [LO.out]; omega)
          rw [HX1.out] at hcb2
          replace BB := Lib.hid (Below.andThen BB.out hb)
          clear hS hb
          go_wp2_with fail
          with_reducible refine Calls.mono (CU.out _) ?_
          rintro e w3 ⟨b3, rfl, hS, hb⟩
          obtain ⟨hlb3, hcb3⟩ := ssl_at hS (i := n) (by rw [LO.out]; omega)
          rw [HY.out] at hcb3
          replace BB := Lib.hid (Below.andThen BB.out hb)
          clear hS hb
          go_wp2_with fail
          go_ret
          exact ⟨_, rfl, by rw [HE.out]; exact made_own w3 [y] BB.out.size rfl rfl (by decide), BB.out.alloc BB.out.size _⟩
        · have c3b : ¬ (n : Int) < 20 := by omega
          replace HD := Lib.hid (HD.out.trans (if_neg c3))
          have HT2 := Lib.hid (HT1.out (by omega))
          by_cases c4 : d = 0
          · have c4b : ((d : Int) == 0) = true := by rw [c4]; rfl
            have HE := Lib.hid (show D = [t] from HD.out.trans (if_pos c4))
            clear c4
            go_enter Tryd.func47, Tryd.ntmps47
            go_wp2_with fail
            with_reducible refine Calls.mono (CU.out _) ?_
            rintro e w2 ⟨b2, rfl, hS, hb⟩
            obtain ⟨hlb2, hcb2⟩ := ssl_at hS (i := d) (by rw [LO.out]; omega)
            rw [HX1.out] at hcb2
            replace BB := Lib.hid (Below.andThen BB.out hb)
            clear hS hb
            go_wp2_with fail
            with_reducible refine Calls.mono (CT.out _) ?_
            rintro e w3 ⟨b3, rfl, hS, hb⟩
            obtain ⟨hlb3, hcb3⟩ := ssl_at hS (i := q) (by rw [LT.out]; omega)
            rw [HT2.out] at hcb3
            replace BB := Lib.hid (Below.andThen BB.out hb)
            clear hS hb
            go_wp2_with fail
            go_ret
            exact ⟨_, rfl, by rw [HE.out]; exact made_own w3 [t] BB.out.size rfl rfl (by decide), BB.out.alloc BB.out.size _⟩
          · have c4b : ((d : Int) == 0) = false := by simp; omega
            replace HD := Lib.hid (HD.out.trans (if_neg c4))
            have HE := Lib.hid (show D = [t ++ [45] ++ x] from HD.out.trans (by rw [HL.out]))
            go_enter Tryd.func47, Tryd.ntmps47
            go_wp2_with fail
            with_reducible refine Calls.mono (CU.out _) ?_
            rintro e w2 ⟨b2, rfl, hS, hb⟩
            obtain ⟨hlb2, hcb2⟩ := ssl_at hS (i := d) (by rw [LO.out]; omega)
            rw [HX1.out] at hcb2
            replace BB := Lib.hid (Below.andThen BB.out hb)
            clear hS hb
            go_wp2_with fail
            with_reducible refine Calls.mono (CT.out _) ?_
            rintro e w3 ⟨b3, rfl, hS, hb⟩
            obtain ⟨hlb3, hcb3⟩ := ssl_at hS (i := q) (by rw [LT.out]; omega)
            rw [HT2.out] at hcb3
            replace BB := Lib.hid (Below.andThen BB.out hb)
            clear hS hb
            go_wp2_with fail
            rw [show bs t ++ (⟨#[45]⟩ : ByteArray) ++ bs x = bs (t ++ [45] ++ x) from by rw [← bs_append, ← bs_append]; rfl]
            go_ret
            exact ⟨_, rfl, by rw [HE.out]; exact made_own w3 [t ++ [45] ++ x] BB.out.size rfl rfl (by decide), BB.out.alloc BB.out.size _⟩
  · skip
    by_cases c1 : d = 1
    · have c1b : ((d : Int) == 1) = true := by rw [c1]; rfl
      have HL := Lib.hid (show l = x from HRL.out.trans (by simp [c1]))
      have C1 := Lib.hid c1
      clear c1
      by_cases c2 : n = 1
      · have c2b : ((n : Int) == 1) = true := by rw [c2]; rfl
        have HE := Lib.hid (show D = [x] from HD.out.trans ((if_pos c2).trans (by rw [HL.out])))
        clear c2
        go_enter Tryd.func47, Tryd.ntmps47
        go_wp2_with fail
        with_reducible refine Calls.mono (CU.out _) ?_
        rintro e w2 ⟨b2, rfl, hS, hb⟩
        obtain ⟨hlb2, hcb2⟩ := ssl_at hS (i := d) (by rw [LO.out]; omega)
        rw [HX1.out] at hcb2
        replace BB := Lib.hid (Below.andThen BB.out hb)
        clear hS hb
        go_wp2_with fail
        go_ret
        exact ⟨_, rfl, by rw [HE.out]; exact made_own w2 [x] BB.out.size rfl rfl (by decide), BB.out.alloc BB.out.size _⟩
      · have c2b : ((n : Int) == 1) = false := by simp; omega
        replace HD := Lib.hid (HD.out.trans (if_neg c2))
        by_cases c3 : n < 20
        · have c3b : (n : Int) < 20 := by omega
          obtain ⟨y, hy⟩ : ∃ y, (ones 0).getD n [] = y := ⟨_, rfl⟩
          have HY := Lib.hid hy
          have HE := Lib.hid (show D = [y] from HD.out.trans ((if_pos c3).trans (by rw [hy])))
          clear hy
          go_enter Tryd.func47, Tryd.ntmps47
          go_wp2_with fail
          with_reducible refine Calls.mono (CU.out _) ?_
          rintro e w2 ⟨b2, rfl, hS, hb⟩
          obtain ⟨hlb2, hcb2⟩ := ssl_at hS (i := d) (by rw [LO.out]; omega)
          rw [HX1.out] at hcb2
          replace BB := Lib.hid (Below.andThen BB.out hb)
          clear hS hb
          go_wp2_with fail
          with_reducible refine Calls.mono (CU.out _) ?_
          rintro e w3 ⟨b3, rfl, hS, hb⟩
          obtain ⟨hlb3, hcb3⟩ := ssl_at hS (i := n) (by rw [LO.out]; omega)
          rw [HY.out] at hcb3
          replace BB := Lib.hid (Below.andThen BB.out hb)
          clear hS hb
          go_wp2_with fail
          go_ret
          exact ⟨_, rfl, by rw [HE.out]; exact made_own w3 [y] BB.out.size rfl rfl (by decide), BB.out.alloc BB.out.size _⟩
        · have c3b : ¬ (n : Int) < 20 := by omega
          replace HD := Lib.hid (HD.out.trans (if_neg c3))
          have HT2 := Lib.hid (HT1.out (by omega))
          have c4 : ¬ d = 0 := by have := C1.out; omega
          have c4b : ((d : Int) == 0) = false := by simp; omega
          replace HD := Lib.hid (HD.out.trans (if_neg c4))
          have HE := Lib.hid (show D = [t ++ [45] ++ x] from HD.out.trans (by rw [HL.out]))
          go_enter Tryd.func47, Tryd.ntmps47
          go_wp2_with fail
          with_reducible refine Calls.mono (CU.out _) ?_
          rintro e w2 ⟨b2, rfl, hS, hb⟩
          obtain ⟨hlb2, hcb2⟩ := ssl_at hS (i := d) (by rw [LO.out]; omega)
          rw [HX1.out] at hcb2
          replace BB := Lib.hid (Below.andThen BB.out hb)
          clear hS hb
          go_wp2_with fail
          with_reducible refine Calls.mono (CT.out _) ?_
          rintro e w3 ⟨b3, rfl, hS, hb⟩
          obtain ⟨hlb3, hcb3⟩ := ssl_at hS (i := q) (by rw [LT.out]; omega)
          rw [HT2.out] at hcb3
          replace BB := Lib.hid (Below.andThen BB.out hb)
          clear hS hb
          go_wp2_with fail
          rw [show bs t ++ (⟨#[45]⟩ : ByteArray) ++ bs x = bs (t ++ [45] ++ x) from by rw [← bs_append, ← bs_append]; rfl]
          go_ret
          exact ⟨_, rfl, by rw [HE.out]; exact made_own w3 [t ++ [45] ++ x] BB.out.size rfl rfl (by decide), BB.out.alloc BB.out.size _⟩
    · have c1b : ((d : Int) == 1) = false := by simp; omega
      have HL := Lib.hid (show l = x from HRL.out.trans (by simp [c1]))
      have C1 := Lib.hid c1
      clear c1
      by_cases c2 : n = 1
      · have c2b : ((n : Int) == 1) = true := by rw [c2]; rfl
        have HE := Lib.hid (show D = [x] from HD.out.trans ((if_pos c2).trans (by rw [HL.out])))
        clear c2
        go_enter Tryd.func47, Tryd.ntmps47
        go_wp2_with fail
        with_reducible refine Calls.mono (CU.out _) ?_
        rintro e w2 ⟨b2, rfl, hS, hb⟩
        obtain ⟨hlb2, hcb2⟩ := ssl_at hS (i := d) (by rw [LO.out]; omega)
        rw [HX1.out] at hcb2
        replace BB := Lib.hid (Below.andThen BB.out hb)
        clear hS hb
        go_wp2_with fail
        go_ret
        exact ⟨_, rfl, by rw [HE.out]; exact made_own w2 [x] BB.out.size rfl rfl (by decide), BB.out.alloc BB.out.size _⟩
      · have c2b : ((n : Int) == 1) = false := by simp; omega
        replace HD := Lib.hid (HD.out.trans (if_neg c2))
        by_cases c3 : n < 20
        · have c3b : (n : Int) < 20 := by omega
          obtain ⟨y, hy⟩ : ∃ y, (ones 0).getD n [] = y := ⟨_, rfl⟩
          have HY := Lib.hid hy
          have HE := Lib.hid (show D = [y] from HD.out.trans ((if_pos c3).trans (by rw [hy])))
          clear hy
          go_enter Tryd.func47, Tryd.ntmps47
          go_wp2_with fail
          with_reducible refine Calls.mono (CU.out _) ?_
          rintro e w2 ⟨b2, rfl, hS, hb⟩
          obtain ⟨hlb2, hcb2⟩ := ssl_at hS (i := d) (by rw [LO.out]; omega)
          rw [HX1.out] at hcb2
          replace BB := Lib.hid (Below.andThen BB.out hb)
          clear hS hb
          go_wp2_with fail
          with_reducible refine Calls.mono (CU.out _) ?_
          rintro e w3 ⟨b3, rfl, hS, hb⟩
          obtain ⟨hlb3, hcb3⟩ := ssl_at hS (i := n) (by rw [LO.out]; omega)
          rw [HY.out] at hcb3
          replace BB := Lib.hid (Below.andThen BB.out hb)
          clear hS hb
          go_wp2_with fail
          go_ret
          exact ⟨_, rfl, by rw [HE.out]; exact made_own w3 [y] BB.out.size rfl rfl (by decide), BB.out.alloc BB.out.size _⟩
        · have c3b : ¬ (n : Int) < 20 := by omega
          replace HD := Lib.hid (HD.out.trans (if_neg c3))
          have HT2 := Lib.hid (HT1.out (by omega))
          by_cases c4 : d = 0
          · have c4b : ((d : Int) == 0) = true := by rw [c4]; rfl
            have HE := Lib.hid (show D = [t] from HD.out.trans (if_pos c4))
            clear c4
            go_enter Tryd.func47, Tryd.ntmps47
            go_wp2_with fail
            with_reducible refine Calls.mono (CU.out _) ?_
            rintro e w2 ⟨b2, rfl, hS, hb⟩
            obtain ⟨hlb2, hcb2⟩ := ssl_at hS (i := d) (by rw [LO.out]; omega)
            rw [HX1.out] at hcb2
            replace BB := Lib.hid (Below.andThen BB.out hb)
            clear hS hb
            go_wp2_with fail
            with_reducible refine Calls.mono (CT.out _) ?_
            rintro e w3 ⟨b3, rfl, hS, hb⟩
            obtain ⟨hlb3, hcb3⟩ := ssl_at hS (i := q) (by rw [LT.out]; omega)
            rw [HT2.out] at hcb3
            replace BB := Lib.hid (Below.andThen BB.out hb)
            clear hS hb
            go_wp2_with fail
            go_ret
            exact ⟨_, rfl, by rw [HE.out]; exact made_own w3 [t] BB.out.size rfl rfl (by decide), BB.out.alloc BB.out.size _⟩
          · have c4b : ((d : Int) == 0) = false := by simp; omega
            replace HD := Lib.hid (HD.out.trans (if_neg c4))
            have HE := Lib.hid (show D = [t ++ [45] ++ x] from HD.out.trans (by rw [HL.out]))
            go_enter Tryd.func47, Tryd.ntmps47
            go_wp2_with fail
            with_reducible refine Calls.mono (CU.out _) ?_
            rintro e w2 ⟨b2, rfl, hS, hb⟩
            obtain ⟨hlb2, hcb2⟩ := ssl_at hS (i := d) (by rw [LO.out]; omega)
            rw [HX1.out] at hcb2
            replace BB := Lib.hid (Below.andThen BB.out hb)
            clear hS hb
            go_wp2_with fail
            with_reducible refine Calls.mono (CT.out _) ?_
            rintro e w3 ⟨b3, rfl, hS, hb⟩
            obtain ⟨hlb3, hcb3⟩ := ssl_at hS (i := q) (by rw [LT.out]; omega)
            rw [HT2.out] at hcb3
            replace BB := Lib.hid (Below.andThen BB.out hb)
            clear hS hb
            go_wp2_with fail
            rw [show bs t ++ (⟨#[45]⟩ : ByteArray) ++ bs x = bs (t ++ [45] ++ x) from by rw [← bs_append, ← bs_append]; rfl]
            go_ret
            exact ⟨_, rfl, by rw [HE.out]; exact made_own w3 [t ++ [45] ++ x] BB.out.size rfl rfl (by decide), BB.out.alloc BB.out.size _⟩
end Wo
end Go.Proofs.YtebdpdmkehfgfaaDoor
set_option linter.unusedVariables false
set_option linter.unusedSimpArgs false
namespace Go.Proofs.YtebdpdmkehfgfaaDoor
open Go.RowKit
namespace Wo
set_option maxRecDepth 100000 in
set_option maxHeartbeats 8000000 in
theorem rbelow1 (n : Nat) (ends : Bool) (N : Int) (hN : N = n) (h0 : 0 < n) (hn : n < 100) (w : World) : Calls Tryd.prog 47 #[.int .i64 2, .int .i64 N, .bool ends] w fun e w' => ∃ v, e = .returned v ∧ OwnS w' w.heap.size v (rbelow 1 n ends) ∧ Below w.heap.size w w' := by
  subst hN
  have CU := Lib.hid (fun W => runits 1 2 (by decide) rfl W)
  have CT := Lib.hid (fun W => rtens 1 2 (by decide) rfl W)
  have BB := Lib.hid (Below.refl w.heap.size w)
  obtain ⟨d, hd⟩ : ∃ d, n % 10 = d := ⟨_, rfl⟩
  obtain ⟨q, hq⟩ : ∃ q, n / 10 = q := ⟨_, rfl⟩
  have di : (n : Int) % 10 = d := by omega
  have qi : (n : Int) / 10 = q := by omega
  have HD := Lib.hid (show rbelow 1 n ends = (if n = 1 then [rlast 1 n ends] else if n < 20 then [(ones 1).getD n []] else if d = 0 then [rten 1 n] else [(if d = 1 then ein else rlast 1 n ends) ++ und ++ rten 1 n]) from by
    rw [← hd]
    rfl)
  have HX := Lib.hid (show (ones 1).getD d [] = (ones 1).getD d [] from rfl)
  have zo := Lib.hid (fun i => ones_el (k := 1) (i := i) (by decide))
  have zt := Lib.hid (fun i => tens_el (k := 1) (i := i) (by decide))
  generalize hx : (ones 1).getD d [] = x at *
  have HX1 := Lib.hid hx
  have zx : (bs x).size ≤ 20 := by rw [bs_size, ← hx]; exact zo.out d
  have LO := Lib.hid (ones_len (k := 1) (by decide))
  have LT := Lib.hid (show (tensR 1).length = 10 from rfl)
  have HT1 := Lib.hid (show 20 ≤ n → (tensR 1).getD q [] = rten 1 n from fun h => by
    unfold rten
    rw [hq]
    obtain ⟨j, rfl⟩ : ∃ j, q = j + 2 := ⟨q - 2, by omega⟩
    rfl)
  have zT : (bs (rten 1 n)).size ≤ 20 := by rw [bs_size]; exact zt.out _
  have HRL := Lib.hid (show rlast 1 n ends = (if d = 1 ∧ (1 : Nat) = 1 ∧ ends = false then ein else if d = 1 ∧ (1 : Nat) = 2 ∧ ends = false then un else x) from by rw [← hx, ← hd]; rfl)
  have d10 : d < 10 := by omega
  generalize rbelow 1 n ends = D at *
  generalize rten 1 n = t at *
  generalize rlast 1 n ends = l at *
  clear hx hd hq HX
  cases ends
  · skip
    by_cases c1 : d = 1
    · have c1b : ((d : Int) == 1) = true := by rw [c1]; rfl
      have HL := Lib.hid (show l = ein from HRL.out.trans (by simp [c1]))
      have C1 := Lib.hid c1
      clear c1
      by_cases c2 : n = 1
      · have c2b : ((n : Int) == 1) = true := by rw [c2]; rfl
        have HE := Lib.hid (show D = [ein] from HD.out.trans ((if_pos c2).trans (by rw [HL.out])))
        clear c2
        go_enter Tryd.func47, Tryd.ntmps47
        go_wp2_with fail
        with_reducible refine Calls.mono (CU.out _) ?_
        rintro e w2 ⟨b2, rfl, hS, hb⟩
        obtain ⟨hlb2, hcb2⟩ := ssl_at hS (i := d) (by rw [LO.out]; omega)
        rw [HX1.out] at hcb2
        replace BB := Lib.hid (Below.andThen BB.out hb)
        clear hS hb
        go_wp2_with fail
        go_ret
        exact ⟨_, rfl, by rw [HE.out]; exact made_own w2 [ein] BB.out.size rfl rfl (by decide), BB.out.alloc BB.out.size _⟩
      · have c2b : ((n : Int) == 1) = false := by simp; omega
        replace HD := Lib.hid (HD.out.trans (if_neg c2))
        by_cases c3 : n < 20
        · have c3b : (n : Int) < 20 := by omega
          obtain ⟨y, hy⟩ : ∃ y, (ones 1).getD n [] = y := ⟨_, rfl⟩
          have HY := Lib.hid hy
          have HE := Lib.hid (show D = [y] from HD.out.trans ((if_pos c3).trans (by rw [hy])))
          clear hy
          go_enter Tryd.func47, Tryd.ntmps47
          go_wp2_with fail
          with_reducible refine Calls.mono (CU.out _) ?_
          rintro e w2 ⟨b2, rfl, hS, hb⟩
          obtain ⟨hlb2, hcb2⟩ := ssl_at hS (i := d) (by rw [LO.out]; omega)
          rw [HX1.out] at hcb2
          replace BB := Lib.hid (Below.andThen BB.out hb)
          clear hS hb
          go_wp2_with fail
          with_reducible refine Calls.mono (CU.out _) ?_
          rintro e w3 ⟨b3, rfl, hS, hb⟩
          obtain ⟨hlb3, hcb3⟩ := ssl_at hS (i := n) (by rw [LO.out]; omega)
          rw [HY.out] at hcb3
          replace BB := Lib.hid (Below.andThen BB.out hb)
          clear hS hb
          go_wp2_with fail
          go_ret
          exact ⟨_, rfl, by rw [HE.out]; exact made_own w3 [y] BB.out.size rfl rfl (by decide), BB.out.alloc BB.out.size _⟩
        · have c3b : ¬ (n : Int) < 20 := by omega
          replace HD := Lib.hid (HD.out.trans (if_neg c3))
          have HT2 := Lib.hid (HT1.out (by omega))
          have c4 : ¬ d = 0 := by have := C1.out; omega
          have c4b : ((d : Int) == 0) = false := by simp; omega
          replace HD := Lib.hid (HD.out.trans (if_neg c4))
          have HE := Lib.hid (show D = [ein ++ und ++ t] from HD.out.trans (by rw [if_pos C1.out]))
          go_enter Tryd.func47, Tryd.ntmps47
          go_wp2_with fail
          with_reducible refine Calls.mono (CU.out _) ?_
          rintro e w2 ⟨b2, rfl, hS, hb⟩
          obtain ⟨hlb2, hcb2⟩ := ssl_at hS (i := d) (by rw [LO.out]; omega)
          rw [HX1.out] at hcb2
          replace BB := Lib.hid (Below.andThen BB.out hb)
          clear hS hb
          go_wp2_with fail
          with_reducible refine Calls.mono (CT.out _) ?_
          rintro e w3 ⟨b3, rfl, hS, hb⟩
          obtain ⟨hlb3, hcb3⟩ := ssl_at hS (i := q) (by rw [LT.out]; omega)
          rw [HT2.out] at hcb3
          replace BB := Lib.hid (Below.andThen BB.out hb)
          clear hS hb
          go_wp2_with fail
          rw [show (⟨#[101, 105, 110]⟩ : ByteArray) ++ (⟨#[117, 110, 100]⟩ : ByteArray) ++ bs t = bs (ein ++ und ++ t) from by rw [← bs_append, ← bs_append]; rfl]
          go_ret
          exact ⟨_, rfl, by rw [HE.out]; exact made_own w3 [ein ++ und ++ t] BB.out.size rfl rfl (by decide), BB.out.alloc BB.out.size _⟩
    · have c1b : ((d : Int) == 1) = false := by simp; omega
      have HL := Lib.hid (show l = x from HRL.out.trans (by simp [c1]))
      have C1 := Lib.hid c1
      clear c1
      by_cases c2 : n = 1
      · have c2b : ((n : Int) == 1) = true := by rw [c2]; rfl
        have HE := Lib.hid (show D = [x] from HD.out.trans ((if_pos c2).trans (by rw [HL.out])))
        clear c2
        go_enter Tryd.func47, Tryd.ntmps47
        go_wp2_with fail
        with_reducible refine Calls.mono (CU.out _) ?_
        rintro e w2 ⟨b2, rfl, hS, hb⟩
        obtain ⟨hlb2, hcb2⟩ := ssl_at hS (i := d) (by rw [LO.out]; omega)
        rw [HX1.out] at hcb2
        replace BB := Lib.hid (Below.andThen BB.out hb)
        clear hS hb
        go_wp2_with fail
        go_ret
        exact ⟨_, rfl, by rw [HE.out]; exact made_own w2 [x] BB.out.size rfl rfl (by decide), BB.out.alloc BB.out.size _⟩
      · have c2b : ((n : Int) == 1) = false := by simp; omega
        replace HD := Lib.hid (HD.out.trans (if_neg c2))
        by_cases c3 : n < 20
        · have c3b : (n : Int) < 20 := by omega
          obtain ⟨y, hy⟩ : ∃ y, (ones 1).getD n [] = y := ⟨_, rfl⟩
          have HY := Lib.hid hy
          have HE := Lib.hid (show D = [y] from HD.out.trans ((if_pos c3).trans (by rw [hy])))
          clear hy
          go_enter Tryd.func47, Tryd.ntmps47
          go_wp2_with fail
          with_reducible refine Calls.mono (CU.out _) ?_
          rintro e w2 ⟨b2, rfl, hS, hb⟩
          obtain ⟨hlb2, hcb2⟩ := ssl_at hS (i := d) (by rw [LO.out]; omega)
          rw [HX1.out] at hcb2
          replace BB := Lib.hid (Below.andThen BB.out hb)
          clear hS hb
          go_wp2_with fail
          with_reducible refine Calls.mono (CU.out _) ?_
          rintro e w3 ⟨b3, rfl, hS, hb⟩
          obtain ⟨hlb3, hcb3⟩ := ssl_at hS (i := n) (by rw [LO.out]; omega)
          rw [HY.out] at hcb3
          replace BB := Lib.hid (Below.andThen BB.out hb)
          clear hS hb
          go_wp2_with fail
          go_ret
          exact ⟨_, rfl, by rw [HE.out]; exact made_own w3 [y] BB.out.size rfl rfl (by decide), BB.out.alloc BB.out.size _⟩
        · have c3b : ¬ (n : Int) < 20 := by omega
          replace HD := Lib.hid (HD.out.trans (if_neg c3))
          have HT2 := Lib.hid (HT1.out (by omega))
          by_cases c4 : d = 0
          · have c4b : ((d : Int) == 0) = true := by rw [c4]; rfl
            have HE := Lib.hid (show D = [t] from HD.out.trans (if_pos c4))
            clear c4
            go_enter Tryd.func47, Tryd.ntmps47
            go_wp2_with fail
            with_reducible refine Calls.mono (CU.out _) ?_
            rintro e w2 ⟨b2, rfl, hS, hb⟩
            obtain ⟨hlb2, hcb2⟩ := ssl_at hS (i := d) (by rw [LO.out]; omega)
            rw [HX1.out] at hcb2
            replace BB := Lib.hid (Below.andThen BB.out hb)
            clear hS hb
            go_wp2_with fail
            with_reducible refine Calls.mono (CT.out _) ?_
            rintro e w3 ⟨b3, rfl, hS, hb⟩
            obtain ⟨hlb3, hcb3⟩ := ssl_at hS (i := q) (by rw [LT.out]; omega)
            rw [HT2.out] at hcb3
            replace BB := Lib.hid (Below.andThen BB.out hb)
            clear hS hb
            go_wp2_with fail
            go_ret
            exact ⟨_, rfl, by rw [HE.out]; exact made_own w3 [t] BB.out.size rfl rfl (by decide), BB.out.alloc BB.out.size _⟩
          · have c4b : ((d : Int) == 0) = false := by simp; omega
            replace HD := Lib.hid (HD.out.trans (if_neg c4))
            have HE := Lib.hid (show D = [x ++ und ++ t] from HD.out.trans (by rw [if_neg C1.out, HL.out]))
            go_enter Tryd.func47, Tryd.ntmps47
            go_wp2_with fail
            with_reducible refine Calls.mono (CU.out _) ?_
            rintro e w2 ⟨b2, rfl, hS, hb⟩
            obtain ⟨hlb2, hcb2⟩ := ssl_at hS (i := d) (by rw [LO.out]; omega)
            rw [HX1.out] at hcb2
            replace BB := Lib.hid (Below.andThen BB.out hb)
            clear hS hb
            go_wp2_with fail
            with_reducible refine Calls.mono (CT.out _) ?_
            rintro e w3 ⟨b3, rfl, hS, hb⟩
            obtain ⟨hlb3, hcb3⟩ := ssl_at hS (i := q) (by rw [LT.out]; omega)
            rw [HT2.out] at hcb3
            replace BB := Lib.hid (Below.andThen BB.out hb)
            clear hS hb
            go_wp2_with fail
            rw [show bs x ++ (⟨#[117, 110, 100]⟩ : ByteArray) ++ bs t = bs (x ++ und ++ t) from by rw [← bs_append, ← bs_append]; rfl]
            go_ret
            exact ⟨_, rfl, by rw [HE.out]; exact made_own w3 [x ++ und ++ t] BB.out.size rfl rfl (by decide), BB.out.alloc BB.out.size _⟩
  · skip
    by_cases c1 : d = 1
    · have c1b : ((d : Int) == 1) = true := by rw [c1]; rfl
      have HL := Lib.hid (show l = x from HRL.out.trans (by simp [c1]))
      have C1 := Lib.hid c1
      clear c1
      by_cases c2 : n = 1
      · have c2b : ((n : Int) == 1) = true := by rw [c2]; rfl
        have HE := Lib.hid (show D = [x] from HD.out.trans ((if_pos c2).trans (by rw [HL.out])))
        clear c2
        go_enter Tryd.func47, Tryd.ntmps47
        go_wp2_with fail
        with_reducible refine Calls.mono (CU.out _) ?_
        rintro e w2 ⟨b2, rfl, hS, hb⟩
        obtain ⟨hlb2, hcb2⟩ := ssl_at hS (i := d) (by rw [LO.out]; omega)
        rw [HX1.out] at hcb2
        replace BB := Lib.hid (Below.andThen BB.out hb)
        clear hS hb
        go_wp2_with fail
        go_ret
        exact ⟨_, rfl, by rw [HE.out]; exact made_own w2 [x] BB.out.size rfl rfl (by decide), BB.out.alloc BB.out.size _⟩
      · have c2b : ((n : Int) == 1) = false := by simp; omega
        replace HD := Lib.hid (HD.out.trans (if_neg c2))
        by_cases c3 : n < 20
        · have c3b : (n : Int) < 20 := by omega
          obtain ⟨y, hy⟩ : ∃ y, (ones 1).getD n [] = y := ⟨_, rfl⟩
          have HY := Lib.hid hy
          have HE := Lib.hid (show D = [y] from HD.out.trans ((if_pos c3).trans (by rw [hy])))
          clear hy
          go_enter Tryd.func47, Tryd.ntmps47
          go_wp2_with fail
          with_reducible refine Calls.mono (CU.out _) ?_
          rintro e w2 ⟨b2, rfl, hS, hb⟩
          obtain ⟨hlb2, hcb2⟩ := ssl_at hS (i := d) (by rw [LO.out]; omega)
          rw [HX1.out] at hcb2
          replace BB := Lib.hid (Below.andThen BB.out hb)
          clear hS hb
          go_wp2_with fail
          with_reducible refine Calls.mono (CU.out _) ?_
          rintro e w3 ⟨b3, rfl, hS, hb⟩
          obtain ⟨hlb3, hcb3⟩ := ssl_at hS (i := n) (by rw [LO.out]; omega)
          rw [HY.out] at hcb3
          replace BB := Lib.hid (Below.andThen BB.out hb)
          clear hS hb
          go_wp2_with fail
          go_ret
          exact ⟨_, rfl, by rw [HE.out]; exact made_own w3 [y] BB.out.size rfl rfl (by decide), BB.out.alloc BB.out.size _⟩
        · have c3b : ¬ (n : Int) < 20 := by omega
          replace HD := Lib.hid (HD.out.trans (if_neg c3))
          have HT2 := Lib.hid (HT1.out (by omega))
          have c4 : ¬ d = 0 := by have := C1.out; omega
          have c4b : ((d : Int) == 0) = false := by simp; omega
          replace HD := Lib.hid (HD.out.trans (if_neg c4))
          have HE := Lib.hid (show D = [ein ++ und ++ t] from HD.out.trans (by rw [if_pos C1.out]))
          go_enter Tryd.func47, Tryd.ntmps47
          go_wp2_with fail
          with_reducible refine Calls.mono (CU.out _) ?_
          rintro e w2 ⟨b2, rfl, hS, hb⟩
          obtain ⟨hlb2, hcb2⟩ := ssl_at hS (i := d) (by rw [LO.out]; omega)
          rw [HX1.out] at hcb2
          replace BB := Lib.hid (Below.andThen BB.out hb)
          clear hS hb
          go_wp2_with fail
          with_reducible refine Calls.mono (CT.out _) ?_
          rintro e w3 ⟨b3, rfl, hS, hb⟩
          obtain ⟨hlb3, hcb3⟩ := ssl_at hS (i := q) (by rw [LT.out]; omega)
          rw [HT2.out] at hcb3
          replace BB := Lib.hid (Below.andThen BB.out hb)
          clear hS hb
          go_wp2_with fail
          rw [show (⟨#[101, 105, 110]⟩ : ByteArray) ++ (⟨#[117, 110, 100]⟩ : ByteArray) ++ bs t = bs (ein ++ und ++ t) from by rw [← bs_append, ← bs_append]; rfl]
          go_ret
          exact ⟨_, rfl, by rw [HE.out]; exact made_own w3 [ein ++ und ++ t] BB.out.size rfl rfl (by decide), BB.out.alloc BB.out.size _⟩
    · have c1b : ((d : Int) == 1) = false := by simp; omega
      have HL := Lib.hid (show l = x from HRL.out.trans (by simp [c1]))
      have C1 := Lib.hid c1
      clear c1
      by_cases c2 : n = 1
      · have c2b : ((n : Int) == 1) = true := by rw [c2]; rfl
        have HE := Lib.hid (show D = [x] from HD.out.trans ((if_pos c2).trans (by rw [HL.out])))
        clear c2
        go_enter Tryd.func47, Tryd.ntmps47
        go_wp2_with fail
        with_reducible refine Calls.mono (CU.out _) ?_
        rintro e w2 ⟨b2, rfl, hS, hb⟩
        obtain ⟨hlb2, hcb2⟩ := ssl_at hS (i := d) (by rw [LO.out]; omega)
        rw [HX1.out] at hcb2
        replace BB := Lib.hid (Below.andThen BB.out hb)
        clear hS hb
        go_wp2_with fail
        go_ret
        exact ⟨_, rfl, by rw [HE.out]; exact made_own w2 [x] BB.out.size rfl rfl (by decide), BB.out.alloc BB.out.size _⟩
      · have c2b : ((n : Int) == 1) = false := by simp; omega
        replace HD := Lib.hid (HD.out.trans (if_neg c2))
        by_cases c3 : n < 20
        · have c3b : (n : Int) < 20 := by omega
          obtain ⟨y, hy⟩ : ∃ y, (ones 1).getD n [] = y := ⟨_, rfl⟩
          have HY := Lib.hid hy
          have HE := Lib.hid (show D = [y] from HD.out.trans ((if_pos c3).trans (by rw [hy])))
          clear hy
          go_enter Tryd.func47, Tryd.ntmps47
          go_wp2_with fail
          with_reducible refine Calls.mono (CU.out _) ?_
          rintro e w2 ⟨b2, rfl, hS, hb⟩
          obtain ⟨hlb2, hcb2⟩ := ssl_at hS (i := d) (by rw [LO.out]; omega)
          rw [HX1.out] at hcb2
          replace BB := Lib.hid (Below.andThen BB.out hb)
          clear hS hb
          go_wp2_with fail
          with_reducible refine Calls.mono (CU.out _) ?_
          rintro e w3 ⟨b3, rfl, hS, hb⟩
          obtain ⟨hlb3, hcb3⟩ := ssl_at hS (i := n) (by rw [LO.out]; omega)
          rw [HY.out] at hcb3
          replace BB := Lib.hid (Below.andThen BB.out hb)
          clear hS hb
          go_wp2_with fail
          go_ret
          exact ⟨_, rfl, by rw [HE.out]; exact made_own w3 [y] BB.out.size rfl rfl (by decide), BB.out.alloc BB.out.size _⟩
        · have c3b : ¬ (n : Int) < 20 := by omega
          replace HD := Lib.hid (HD.out.trans (if_neg c3))
          have HT2 := Lib.hid (HT1.out (by omega))
          by_cases c4 : d = 0
          · have c4b : ((d : Int) == 0) = true := by rw [c4]; rfl
            have HE := Lib.hid (show D = [t] from HD.out.trans (if_pos c4))
            clear c4
            go_enter Tryd.func47, Tryd.ntmps47
            go_wp2_with fail
            with_reducible refine Calls.mono (CU.out _) ?_
            rintro e w2 ⟨b2, rfl, hS, hb⟩
            obtain ⟨hlb2, hcb2⟩ := ssl_at hS (i := d) (by rw [LO.out]; omega)
            rw [HX1.out] at hcb2
            replace BB := Lib.hid (Below.andThen BB.out hb)
            clear hS hb
            go_wp2_with fail
            with_reducible refine Calls.mono (CT.out _) ?_
            rintro e w3 ⟨b3, rfl, hS, hb⟩
            obtain ⟨hlb3, hcb3⟩ := ssl_at hS (i := q) (by rw [LT.out]; omega)
            rw [HT2.out] at hcb3
            replace BB := Lib.hid (Below.andThen BB.out hb)
            clear hS hb
            go_wp2_with fail
            go_ret
            exact ⟨_, rfl, by rw [HE.out]; exact made_own w3 [t] BB.out.size rfl rfl (by decide), BB.out.alloc BB.out.size _⟩
          · have c4b : ((d : Int) == 0) = false := by simp; omega
            replace HD := Lib.hid (HD.out.trans (if_neg c4))
            have HE := Lib.hid (show D = [x ++ und ++ t] from HD.out.trans (by rw [if_neg C1.out, HL.out]))
            go_enter Tryd.func47, Tryd.ntmps47
            go_wp2_with fail
            with_reducible refine Calls.mono (CU.out _) ?_
            rintro e w2 ⟨b2, rfl, hS, hb⟩
            obtain ⟨hlb2, hcb2⟩ := ssl_at hS (i := d) (by rw [LO.out]; omega)
            rw [HX1.out] at hcb2
            replace BB := Lib.hid (Below.andThen BB.out hb)
            clear hS hb
            go_wp2_with fail
            with_reducible refine Calls.mono (CT.out _) ?_
            rintro e w3 ⟨b3, rfl, hS, hb⟩
            obtain ⟨hlb3, hcb3⟩ := ssl_at hS (i := q) (by rw [LT.out]; omega)
            rw [HT2.out] at hcb3
            replace BB := Lib.hid (Below.andThen BB.out hb)
            clear hS hb
            go_wp2_with fail
            rw [show bs x ++ (⟨#[117, 110, 100]⟩ : ByteArray) ++ bs t = bs (x ++ und ++ t) from by rw [← bs_append, ← bs_append]; rfl]
            go_ret
            exact ⟨_, rfl, by rw [HE.out]; exact made_own w3 [x ++ und ++ t] BB.out.size rfl rfl (by decide), BB.out.alloc BB.out.size _⟩
end Wo
end Go.Proofs.YtebdpdmkehfgfaaDoor
set_option linter.unusedVariables false
set_option linter.unusedSimpArgs false
namespace Go.Proofs.YtebdpdmkehfgfaaDoor
open Go.RowKit
namespace Wo
set_option maxRecDepth 100000 in
set_option maxHeartbeats 8000000 in
theorem rbelow2 (n : Nat) (ends : Bool) (N : Int) (hN : N = n) (h0 : 0 < n) (hn : n < 100) (w : World) : Calls Tryd.prog 47 #[.int .i64 3, .int .i64 N, .bool ends] w fun e w' => ∃ v, e = .returned v ∧ OwnS w' w.heap.size v (rbelow 2 n ends) ∧ Below w.heap.size w w' := by
  subst hN
  have CU := Lib.hid (fun W => runits 2 3 (by decide) rfl W)
  have CT := Lib.hid (fun W => rtens 2 3 (by decide) rfl W)
  have BB := Lib.hid (Below.refl w.heap.size w)
  obtain ⟨d, hd⟩ : ∃ d, n % 10 = d := ⟨_, rfl⟩
  obtain ⟨q, hq⟩ : ∃ q, n / 10 = q := ⟨_, rfl⟩
  have di : (n : Int) % 10 = d := by omega
  have qi : (n : Int) / 10 = q := by omega
  have HD := Lib.hid (show rbelow 2 n ends = (if n = 1 then [rlast 2 n ends] else if n < 20 then [(ones 2).getD n []] else if d = 0 then [rten 2 n] else if n < 30 then [veinti ++ rlast 2 n ends] else [rten 2 n, yy, rlast 2 n ends]) from by
    rw [← hd]
    unfold rbelow; simp)
  have HX := Lib.hid (show (ones 2).getD d [] = (ones 2).getD d [] from rfl)
  have zo := Lib.hid (fun i => ones_el (k := 2) (i := i) (by decide))
  have zt := Lib.hid (fun i => tens_el (k := 2) (i := i) (by decide))
  generalize hx : (ones 2).getD d [] = x at *
  have HX1 := Lib.hid hx
  have zx : (bs x).size ≤ 20 := by rw [bs_size, ← hx]; exact zo.out d
  have LO := Lib.hid (ones_len (k := 2) (by decide))
  have LT := Lib.hid (show (tensR 2).length = 10 from rfl)
  have HT1 := Lib.hid (show 20 ≤ n → (tensR 2).getD q [] = rten 2 n from fun h => by
    unfold rten
    rw [hq]
    obtain ⟨j, rfl⟩ : ∃ j, q = j + 2 := ⟨q - 2, by omega⟩
    rfl)
  have zT : (bs (rten 2 n)).size ≤ 20 := by rw [bs_size]; exact zt.out _
  have HRL := Lib.hid (show rlast 2 n ends = (if d = 1 ∧ (2 : Nat) = 1 ∧ ends = false then ein else if d = 1 ∧ (2 : Nat) = 2 ∧ ends = false then un else x) from by rw [← hx, ← hd]; rfl)
  have d10 : d < 10 := by omega
  generalize rbelow 2 n ends = D at *
  generalize rten 2 n = t at *
  generalize rlast 2 n ends = l at *
  clear hx hd hq HX
  cases ends
  · skip
    by_cases c1 : d = 1
    · have c1b : ((d : Int) == 1) = true := by rw [c1]; rfl
      have HL := Lib.hid (show l = un from HRL.out.trans (by simp [c1]))
      have C1 := Lib.hid c1
      clear c1
      by_cases c2 : n = 1
      · have c2b : ((n : Int) == 1) = true := by rw [c2]; rfl
        have HE := Lib.hid (show D = [un] from HD.out.trans ((if_pos c2).trans (by rw [HL.out])))
        clear c2
        go_enter Tryd.func47, Tryd.ntmps47
        go_wp2_with fail
        with_reducible refine Calls.mono (CU.out _) ?_
        rintro e w2 ⟨b2, rfl, hS, hb⟩
        obtain ⟨hlb2, hcb2⟩ := ssl_at hS (i := d) (by rw [LO.out]; omega)
        rw [HX1.out] at hcb2
        replace BB := Lib.hid (Below.andThen BB.out hb)
        clear hS hb
        go_wp2_with fail
        go_ret
        exact ⟨_, rfl, by rw [HE.out]; exact made_own w2 [un] BB.out.size rfl rfl (by decide), BB.out.alloc BB.out.size _⟩
      · have c2b : ((n : Int) == 1) = false := by simp; omega
        replace HD := Lib.hid (HD.out.trans (if_neg c2))
        by_cases c3 : n < 20
        · have c3b : (n : Int) < 20 := by omega
          obtain ⟨y, hy⟩ : ∃ y, (ones 2).getD n [] = y := ⟨_, rfl⟩
          have HY := Lib.hid hy
          have HE := Lib.hid (show D = [y] from HD.out.trans ((if_pos c3).trans (by rw [hy])))
          clear hy
          go_enter Tryd.func47, Tryd.ntmps47
          go_wp2_with fail
          with_reducible refine Calls.mono (CU.out _) ?_
          rintro e w2 ⟨b2, rfl, hS, hb⟩
          obtain ⟨hlb2, hcb2⟩ := ssl_at hS (i := d) (by rw [LO.out]; omega)
          rw [HX1.out] at hcb2
          replace BB := Lib.hid (Below.andThen BB.out hb)
          clear hS hb
          go_wp2_with fail
          with_reducible refine Calls.mono (CU.out _) ?_
          rintro e w3 ⟨b3, rfl, hS, hb⟩
          obtain ⟨hlb3, hcb3⟩ := ssl_at hS (i := n) (by rw [LO.out]; omega)
          rw [HY.out] at hcb3
          replace BB := Lib.hid (Below.andThen BB.out hb)
          clear hS hb
          go_wp2_with fail
          go_ret
          exact ⟨_, rfl, by rw [HE.out]; exact made_own w3 [y] BB.out.size rfl rfl (by decide), BB.out.alloc BB.out.size _⟩
        · have c3b : ¬ (n : Int) < 20 := by omega
          replace HD := Lib.hid (HD.out.trans (if_neg c3))
          have HT2 := Lib.hid (HT1.out (by omega))
          have c4 : ¬ d = 0 := by have := C1.out; omega
          have c4b : ((d : Int) == 0) = false := by simp; omega
          replace HD := Lib.hid (HD.out.trans (if_neg c4))
          by_cases c5 : n < 30
          · have c5b : (n : Int) < 30 := by omega
            have HE := Lib.hid (show D = [veinti ++ un] from HD.out.trans ((if_pos c5).trans (by rw [HL.out])))
            go_enter Tryd.func47, Tryd.ntmps47
            go_wp2_with fail
            with_reducible refine Calls.mono (CU.out _) ?_
            rintro e w2 ⟨b2, rfl, hS, hb⟩
            obtain ⟨hlb2, hcb2⟩ := ssl_at hS (i := d) (by rw [LO.out]; omega)
            rw [HX1.out] at hcb2
            replace BB := Lib.hid (Below.andThen BB.out hb)
            clear hS hb
            go_wp2_with fail
            rw [show (⟨#[118, 101, 105, 110, 116, 105]⟩ : ByteArray) ++ (⟨#[117, 110]⟩ : ByteArray) = bs (veinti ++ un) from by rw [← bs_append]; rfl]
            go_ret
            exact ⟨_, rfl, by rw [HE.out]; exact made_own w2 [veinti ++ un] BB.out.size rfl rfl (by decide), BB.out.alloc BB.out.size _⟩
          · have c5b : ¬ (n : Int) < 30 := by omega
            have HE := Lib.hid (show D = [t, yy, un] from HD.out.trans ((if_neg c5).trans (by rw [HL.out])))
            go_enter Tryd.func47, Tryd.ntmps47
            go_wp2_with fail
            with_reducible refine Calls.mono (CU.out _) ?_
            rintro e w2 ⟨b2, rfl, hS, hb⟩
            obtain ⟨hlb2, hcb2⟩ := ssl_at hS (i := d) (by rw [LO.out]; omega)
            rw [HX1.out] at hcb2
            replace BB := Lib.hid (Below.andThen BB.out hb)
            clear hS hb
            go_wp2_with fail
            with_reducible refine Calls.mono (CT.out _) ?_
            rintro e w3 ⟨b3, rfl, hS, hb⟩
            obtain ⟨hlb3, hcb3⟩ := ssl_at hS (i := q) (by rw [LT.out]; omega)
            rw [HT2.out] at hcb3
            replace BB := Lib.hid (Below.andThen BB.out hb)
            clear hS hb
            go_wp2_with fail
            go_ret
            exact ⟨_, rfl, by rw [HE.out]; exact made_own w3 [t, yy, un] BB.out.size rfl rfl (by decide), BB.out.alloc BB.out.size _⟩
    · have c1b : ((d : Int) == 1) = false := by simp; omega
      have HL := Lib.hid (show l = x from HRL.out.trans (by simp [c1]))
      have C1 := Lib.hid c1
      clear c1
      by_cases c2 : n = 1
      · have c2b : ((n : Int) == 1) = true := by rw [c2]; rfl
        have HE := Lib.hid (show D = [x] from HD.out.trans ((if_pos c2).trans (by rw [HL.out])))
        clear c2
        go_enter Tryd.func47, Tryd.ntmps47
        go_wp2_with fail
        with_reducible refine Calls.mono (CU.out _) ?_
        rintro e w2 ⟨b2, rfl, hS, hb⟩
        obtain ⟨hlb2, hcb2⟩ := ssl_at hS (i := d) (by rw [LO.out]; omega)
        rw [HX1.out] at hcb2
        replace BB := Lib.hid (Below.andThen BB.out hb)
        clear hS hb
        go_wp2_with fail
        go_ret
        exact ⟨_, rfl, by rw [HE.out]; exact made_own w2 [x] BB.out.size rfl rfl (by decide), BB.out.alloc BB.out.size _⟩
      · have c2b : ((n : Int) == 1) = false := by simp; omega
        replace HD := Lib.hid (HD.out.trans (if_neg c2))
        by_cases c3 : n < 20
        · have c3b : (n : Int) < 20 := by omega
          obtain ⟨y, hy⟩ : ∃ y, (ones 2).getD n [] = y := ⟨_, rfl⟩
          have HY := Lib.hid hy
          have HE := Lib.hid (show D = [y] from HD.out.trans ((if_pos c3).trans (by rw [hy])))
          clear hy
          go_enter Tryd.func47, Tryd.ntmps47
          go_wp2_with fail
          with_reducible refine Calls.mono (CU.out _) ?_
          rintro e w2 ⟨b2, rfl, hS, hb⟩
          obtain ⟨hlb2, hcb2⟩ := ssl_at hS (i := d) (by rw [LO.out]; omega)
          rw [HX1.out] at hcb2
          replace BB := Lib.hid (Below.andThen BB.out hb)
          clear hS hb
          go_wp2_with fail
          with_reducible refine Calls.mono (CU.out _) ?_
          rintro e w3 ⟨b3, rfl, hS, hb⟩
          obtain ⟨hlb3, hcb3⟩ := ssl_at hS (i := n) (by rw [LO.out]; omega)
          rw [HY.out] at hcb3
          replace BB := Lib.hid (Below.andThen BB.out hb)
          clear hS hb
          go_wp2_with fail
          go_ret
          exact ⟨_, rfl, by rw [HE.out]; exact made_own w3 [y] BB.out.size rfl rfl (by decide), BB.out.alloc BB.out.size _⟩
        · have c3b : ¬ (n : Int) < 20 := by omega
          replace HD := Lib.hid (HD.out.trans (if_neg c3))
          have HT2 := Lib.hid (HT1.out (by omega))
          by_cases c4 : d = 0
          · have c4b : ((d : Int) == 0) = true := by rw [c4]; rfl
            have HE := Lib.hid (show D = [t] from HD.out.trans (if_pos c4))
            clear c4
            go_enter Tryd.func47, Tryd.ntmps47
            go_wp2_with fail
            with_reducible refine Calls.mono (CU.out _) ?_
            rintro e w2 ⟨b2, rfl, hS, hb⟩
            obtain ⟨hlb2, hcb2⟩ := ssl_at hS (i := d) (by rw [LO.out]; omega)
            rw [HX1.out] at hcb2
            replace BB := Lib.hid (Below.andThen BB.out hb)
            clear hS hb
            go_wp2_with fail
            with_reducible refine Calls.mono (CT.out _) ?_
            rintro e w3 ⟨b3, rfl, hS, hb⟩
            obtain ⟨hlb3, hcb3⟩ := ssl_at hS (i := q) (by rw [LT.out]; omega)
            rw [HT2.out] at hcb3
            replace BB := Lib.hid (Below.andThen BB.out hb)
            clear hS hb
            go_wp2_with fail
            go_ret
            exact ⟨_, rfl, by rw [HE.out]; exact made_own w3 [t] BB.out.size rfl rfl (by decide), BB.out.alloc BB.out.size _⟩
          · have c4b : ((d : Int) == 0) = false := by simp; omega
            replace HD := Lib.hid (HD.out.trans (if_neg c4))
            by_cases c5 : n < 30
            · have c5b : (n : Int) < 30 := by omega
              have HE := Lib.hid (show D = [veinti ++ x] from HD.out.trans ((if_pos c5).trans (by rw [HL.out])))
              go_enter Tryd.func47, Tryd.ntmps47
              go_wp2_with fail
              with_reducible refine Calls.mono (CU.out _) ?_
              rintro e w2 ⟨b2, rfl, hS, hb⟩
              obtain ⟨hlb2, hcb2⟩ := ssl_at hS (i := d) (by rw [LO.out]; omega)
              rw [HX1.out] at hcb2
              replace BB := Lib.hid (Below.andThen BB.out hb)
              clear hS hb
              go_wp2_with fail
              rw [show (⟨#[118, 101, 105, 110, 116, 105]⟩ : ByteArray) ++ bs x = bs (veinti ++ x) from by rw [← bs_append]; rfl]
              go_ret
              exact ⟨_, rfl, by rw [HE.out]; exact made_own w2 [veinti ++ x] BB.out.size rfl rfl (by decide), BB.out.alloc BB.out.size _⟩
            · have c5b : ¬ (n : Int) < 30 := by omega
              have HE := Lib.hid (show D = [t, yy, x] from HD.out.trans ((if_neg c5).trans (by rw [HL.out])))
              go_enter Tryd.func47, Tryd.ntmps47
              go_wp2_with fail
              with_reducible refine Calls.mono (CU.out _) ?_
              rintro e w2 ⟨b2, rfl, hS, hb⟩
              obtain ⟨hlb2, hcb2⟩ := ssl_at hS (i := d) (by rw [LO.out]; omega)
              rw [HX1.out] at hcb2
              replace BB := Lib.hid (Below.andThen BB.out hb)
              clear hS hb
              go_wp2_with fail
              with_reducible refine Calls.mono (CT.out _) ?_
              rintro e w3 ⟨b3, rfl, hS, hb⟩
              obtain ⟨hlb3, hcb3⟩ := ssl_at hS (i := q) (by rw [LT.out]; omega)
              rw [HT2.out] at hcb3
              replace BB := Lib.hid (Below.andThen BB.out hb)
              clear hS hb
              go_wp2_with fail
              go_ret
              exact ⟨_, rfl, by rw [HE.out]; exact made_own w3 [t, yy, x] BB.out.size rfl rfl (by decide), BB.out.alloc BB.out.size _⟩
  · skip
    by_cases c1 : d = 1
    · have c1b : ((d : Int) == 1) = true := by rw [c1]; rfl
      have HL := Lib.hid (show l = x from HRL.out.trans (by simp [c1]))
      have C1 := Lib.hid c1
      clear c1
      by_cases c2 : n = 1
      · have c2b : ((n : Int) == 1) = true := by rw [c2]; rfl
        have HE := Lib.hid (show D = [x] from HD.out.trans ((if_pos c2).trans (by rw [HL.out])))
        clear c2
        go_enter Tryd.func47, Tryd.ntmps47
        go_wp2_with fail
        with_reducible refine Calls.mono (CU.out _) ?_
        rintro e w2 ⟨b2, rfl, hS, hb⟩
        obtain ⟨hlb2, hcb2⟩ := ssl_at hS (i := d) (by rw [LO.out]; omega)
        rw [HX1.out] at hcb2
        replace BB := Lib.hid (Below.andThen BB.out hb)
        clear hS hb
        go_wp2_with fail
        go_ret
        exact ⟨_, rfl, by rw [HE.out]; exact made_own w2 [x] BB.out.size rfl rfl (by decide), BB.out.alloc BB.out.size _⟩
      · have c2b : ((n : Int) == 1) = false := by simp; omega
        replace HD := Lib.hid (HD.out.trans (if_neg c2))
        by_cases c3 : n < 20
        · have c3b : (n : Int) < 20 := by omega
          obtain ⟨y, hy⟩ : ∃ y, (ones 2).getD n [] = y := ⟨_, rfl⟩
          have HY := Lib.hid hy
          have HE := Lib.hid (show D = [y] from HD.out.trans ((if_pos c3).trans (by rw [hy])))
          clear hy
          go_enter Tryd.func47, Tryd.ntmps47
          go_wp2_with fail
          with_reducible refine Calls.mono (CU.out _) ?_
          rintro e w2 ⟨b2, rfl, hS, hb⟩
          obtain ⟨hlb2, hcb2⟩ := ssl_at hS (i := d) (by rw [LO.out]; omega)
          rw [HX1.out] at hcb2
          replace BB := Lib.hid (Below.andThen BB.out hb)
          clear hS hb
          go_wp2_with fail
          with_reducible refine Calls.mono (CU.out _) ?_
          rintro e w3 ⟨b3, rfl, hS, hb⟩
          obtain ⟨hlb3, hcb3⟩ := ssl_at hS (i := n) (by rw [LO.out]; omega)
          rw [HY.out] at hcb3
          replace BB := Lib.hid (Below.andThen BB.out hb)
          clear hS hb
          go_wp2_with fail
          go_ret
          exact ⟨_, rfl, by rw [HE.out]; exact made_own w3 [y] BB.out.size rfl rfl (by decide), BB.out.alloc BB.out.size _⟩
        · have c3b : ¬ (n : Int) < 20 := by omega
          replace HD := Lib.hid (HD.out.trans (if_neg c3))
          have HT2 := Lib.hid (HT1.out (by omega))
          have c4 : ¬ d = 0 := by have := C1.out; omega
          have c4b : ((d : Int) == 0) = false := by simp; omega
          replace HD := Lib.hid (HD.out.trans (if_neg c4))
          by_cases c5 : n < 30
          · have c5b : (n : Int) < 30 := by omega
            have HE := Lib.hid (show D = [veinti ++ x] from HD.out.trans ((if_pos c5).trans (by rw [HL.out])))
            go_enter Tryd.func47, Tryd.ntmps47
            go_wp2_with fail
            with_reducible refine Calls.mono (CU.out _) ?_
            rintro e w2 ⟨b2, rfl, hS, hb⟩
            obtain ⟨hlb2, hcb2⟩ := ssl_at hS (i := d) (by rw [LO.out]; omega)
            rw [HX1.out] at hcb2
            replace BB := Lib.hid (Below.andThen BB.out hb)
            clear hS hb
            go_wp2_with fail
            rw [show (⟨#[118, 101, 105, 110, 116, 105]⟩ : ByteArray) ++ bs x = bs (veinti ++ x) from by rw [← bs_append]; rfl]
            go_ret
            exact ⟨_, rfl, by rw [HE.out]; exact made_own w2 [veinti ++ x] BB.out.size rfl rfl (by decide), BB.out.alloc BB.out.size _⟩
          · have c5b : ¬ (n : Int) < 30 := by omega
            have HE := Lib.hid (show D = [t, yy, x] from HD.out.trans ((if_neg c5).trans (by rw [HL.out])))
            go_enter Tryd.func47, Tryd.ntmps47
            go_wp2_with fail
            with_reducible refine Calls.mono (CU.out _) ?_
            rintro e w2 ⟨b2, rfl, hS, hb⟩
            obtain ⟨hlb2, hcb2⟩ := ssl_at hS (i := d) (by rw [LO.out]; omega)
            rw [HX1.out] at hcb2
            replace BB := Lib.hid (Below.andThen BB.out hb)
            clear hS hb
            go_wp2_with fail
            with_reducible refine Calls.mono (CT.out _) ?_
            rintro e w3 ⟨b3, rfl, hS, hb⟩
            obtain ⟨hlb3, hcb3⟩ := ssl_at hS (i := q) (by rw [LT.out]; omega)
            rw [HT2.out] at hcb3
            replace BB := Lib.hid (Below.andThen BB.out hb)
            clear hS hb
            go_wp2_with fail
            go_ret
            exact ⟨_, rfl, by rw [HE.out]; exact made_own w3 [t, yy, x] BB.out.size rfl rfl (by decide), BB.out.alloc BB.out.size _⟩
    · have c1b : ((d : Int) == 1) = false := by simp; omega
      have HL := Lib.hid (show l = x from HRL.out.trans (by simp [c1]))
      have C1 := Lib.hid c1
      clear c1
      by_cases c2 : n = 1
      · have c2b : ((n : Int) == 1) = true := by rw [c2]; rfl
        have HE := Lib.hid (show D = [x] from HD.out.trans ((if_pos c2).trans (by rw [HL.out])))
        clear c2
        go_enter Tryd.func47, Tryd.ntmps47
        go_wp2_with fail
        with_reducible refine Calls.mono (CU.out _) ?_
        rintro e w2 ⟨b2, rfl, hS, hb⟩
        obtain ⟨hlb2, hcb2⟩ := ssl_at hS (i := d) (by rw [LO.out]; omega)
        rw [HX1.out] at hcb2
        replace BB := Lib.hid (Below.andThen BB.out hb)
        clear hS hb
        go_wp2_with fail
        go_ret
        exact ⟨_, rfl, by rw [HE.out]; exact made_own w2 [x] BB.out.size rfl rfl (by decide), BB.out.alloc BB.out.size _⟩
      · have c2b : ((n : Int) == 1) = false := by simp; omega
        replace HD := Lib.hid (HD.out.trans (if_neg c2))
        by_cases c3 : n < 20
        · have c3b : (n : Int) < 20 := by omega
          obtain ⟨y, hy⟩ : ∃ y, (ones 2).getD n [] = y := ⟨_, rfl⟩
          have HY := Lib.hid hy
          have HE := Lib.hid (show D = [y] from HD.out.trans ((if_pos c3).trans (by rw [hy])))
          clear hy
          go_enter Tryd.func47, Tryd.ntmps47
          go_wp2_with fail
          with_reducible refine Calls.mono (CU.out _) ?_
          rintro e w2 ⟨b2, rfl, hS, hb⟩
          obtain ⟨hlb2, hcb2⟩ := ssl_at hS (i := d) (by rw [LO.out]; omega)
          rw [HX1.out] at hcb2
          replace BB := Lib.hid (Below.andThen BB.out hb)
          clear hS hb
          go_wp2_with fail
          with_reducible refine Calls.mono (CU.out _) ?_
          rintro e w3 ⟨b3, rfl, hS, hb⟩
          obtain ⟨hlb3, hcb3⟩ := ssl_at hS (i := n) (by rw [LO.out]; omega)
          rw [HY.out] at hcb3
          replace BB := Lib.hid (Below.andThen BB.out hb)
          clear hS hb
          go_wp2_with fail
          go_ret
          exact ⟨_, rfl, by rw [HE.out]; exact made_own w3 [y] BB.out.size rfl rfl (by decide), BB.out.alloc BB.out.size _⟩
        · have c3b : ¬ (n : Int) < 20 := by omega
          replace HD := Lib.hid (HD.out.trans (if_neg c3))
          have HT2 := Lib.hid (HT1.out (by omega))
          by_cases c4 : d = 0
          · have c4b : ((d : Int) == 0) = true := by rw [c4]; rfl
            have HE := Lib.hid (show D = [t] from HD.out.trans (if_pos c4))
            clear c4
            go_enter Tryd.func47, Tryd.ntmps47
            go_wp2_with fail
            with_reducible refine Calls.mono (CU.out _) ?_
            rintro e w2 ⟨b2, rfl, hS, hb⟩
            obtain ⟨hlb2, hcb2⟩ := ssl_at hS (i := d) (by rw [LO.out]; omega)
            rw [HX1.out] at hcb2
            replace BB := Lib.hid (Below.andThen BB.out hb)
            clear hS hb
            go_wp2_with fail
            with_reducible refine Calls.mono (CT.out _) ?_
            rintro e w3 ⟨b3, rfl, hS, hb⟩
            obtain ⟨hlb3, hcb3⟩ := ssl_at hS (i := q) (by rw [LT.out]; omega)
            rw [HT2.out] at hcb3
            replace BB := Lib.hid (Below.andThen BB.out hb)
            clear hS hb
            go_wp2_with fail
            go_ret
            exact ⟨_, rfl, by rw [HE.out]; exact made_own w3 [t] BB.out.size rfl rfl (by decide), BB.out.alloc BB.out.size _⟩
          · have c4b : ((d : Int) == 0) = false := by simp; omega
            replace HD := Lib.hid (HD.out.trans (if_neg c4))
            by_cases c5 : n < 30
            · have c5b : (n : Int) < 30 := by omega
              have HE := Lib.hid (show D = [veinti ++ x] from HD.out.trans ((if_pos c5).trans (by rw [HL.out])))
              go_enter Tryd.func47, Tryd.ntmps47
              go_wp2_with fail
              with_reducible refine Calls.mono (CU.out _) ?_
              rintro e w2 ⟨b2, rfl, hS, hb⟩
              obtain ⟨hlb2, hcb2⟩ := ssl_at hS (i := d) (by rw [LO.out]; omega)
              rw [HX1.out] at hcb2
              replace BB := Lib.hid (Below.andThen BB.out hb)
              clear hS hb
              go_wp2_with fail
              rw [show (⟨#[118, 101, 105, 110, 116, 105]⟩ : ByteArray) ++ bs x = bs (veinti ++ x) from by rw [← bs_append]; rfl]
              go_ret
              exact ⟨_, rfl, by rw [HE.out]; exact made_own w2 [veinti ++ x] BB.out.size rfl rfl (by decide), BB.out.alloc BB.out.size _⟩
            · have c5b : ¬ (n : Int) < 30 := by omega
              have HE := Lib.hid (show D = [t, yy, x] from HD.out.trans ((if_neg c5).trans (by rw [HL.out])))
              go_enter Tryd.func47, Tryd.ntmps47
              go_wp2_with fail
              with_reducible refine Calls.mono (CU.out _) ?_
              rintro e w2 ⟨b2, rfl, hS, hb⟩
              obtain ⟨hlb2, hcb2⟩ := ssl_at hS (i := d) (by rw [LO.out]; omega)
              rw [HX1.out] at hcb2
              replace BB := Lib.hid (Below.andThen BB.out hb)
              clear hS hb
              go_wp2_with fail
              with_reducible refine Calls.mono (CT.out _) ?_
              rintro e w3 ⟨b3, rfl, hS, hb⟩
              obtain ⟨hlb3, hcb3⟩ := ssl_at hS (i := q) (by rw [LT.out]; omega)
              rw [HT2.out] at hcb3
              replace BB := Lib.hid (Below.andThen BB.out hb)
              clear hS hb
              go_wp2_with fail
              go_ret
              exact ⟨_, rfl, by rw [HE.out]; exact made_own w3 [t, yy, x] BB.out.size rfl rfl (by decide), BB.out.alloc BB.out.size _⟩
end Wo
end Go.Proofs.YtebdpdmkehfgfaaDoor
