/- Words, Number, Is, for any language. -/
import Derived.Test.YtebdpdmkehfgfaaDoorWoP
set_option linter.unusedVariables false
set_option linter.unusedSimpArgs false
namespace Go.Proofs.YtebdpdmkehfgfaaDoor
open Go.RowKit
namespace Wo
def okL (L : Int) : Prop := 1 ≤ L ∧ L ≤ 3
instance (L : Int) : Decidable (okL L) := inferInstanceAs (Decidable (1 ≤ L ∧ L ≤ 3))
theorem okL_k {L : Int} (h : okL L) : ∃ k : Nat, k < 3 ∧ L = k + 1 ∧ (L - 1).toNat = k := ⟨(L - 1).toNat, by have := h.1; have := h.2; omega, by have := h.1; omega, rfl⟩
/-- what Words returns -/
def wO (L n : Int) : List B × Int := if okL L ∧ 0 ≤ n ∧ n ≤ 999999 then (words (L - 1).toNat n.toNat, 0) else ([], 110)
def nO (L : Int) (l : List B) : Option Nat := if okL L then number (L - 1).toNat l else none
def numE : Option Nat → Value
  | some m => .tuple #[.int .i64 m, .int .i64 0]
  | none => .tuple #[.int .i64 0, .int .i64 110]
def iO (L : Int) (s : B) : Bool := if okL L then isW (L - 1).toNat s else false
theorem lang_yes {L : Int} (h : okL L) (w : World) : Calls Tryd.prog 32 #[.int .i64 L] w fun e w' => e = .returned (.bool true) ∧ w = w' := by
  have := isLanguage_any L w
  rw [decide_eq_true h.1, decide_eq_true h.2] at this
  exact this
theorem lang_no {L : Int} (h : ¬ okL L) (w : World) : Calls Tryd.prog 32 #[.int .i64 L] w fun e w' => e = .returned (.bool false) ∧ w = w' := by
  have := isLanguage_any L w
  rw [show (decide (1 ≤ L) && decide (L ≤ 3)) = false by
    rw [← Bool.decide_and]
    exact decide_eq_false h] at this
  exact this
set_option maxRecDepth 100000 in
theorem words0 (n : Nat) (L : Int) (hL : L = 0 + 1) (hn : n < 1000000) (w : World) (T : Tab w) : Calls Tryd.prog 12 #[.int .i64 L, .int .i64 n] w fun e w' => ∃ v, e = .returned (.tuple #[v, .int .i64 0]) ∧ OwnS w' w.heap.size v (words 0 n) ∧ Below w.heap.size w w' := by
  have HT := Lib.hid T
  have BB := Lib.hid (Below.refl w.heap.size w)
  have CL := Lib.hid (lang_yes (L := L) (by unfold okL; omega) w)
  have CO := Lib.hid (show Calls Tryd.prog 33 #[.int .i64 L] w fun e w' => e = .returned (.agg #[fnV 53, fnV 54, fnV 55]) ∧ Below w.heap.size w w' from of_any 0 L (by decide) hL w)
  have CW := Lib.hid (fun W (T : Tab W) => (show Calls Tryd.prog 53 #[.int .i64 n] W fun e w' => ∃ v, e = .returned v ∧ OwnS w' W.heap.size v (words 0 n) ∧ Below W.heap.size W w' from englishWords_any n n rfl hn W T))
  have n1 : ¬ 999999 < (n : Int) := by omega
  have hfd : ∀ w : World, (Instr.field 55 (.agg #[fnV 53, fnV 54, fnV 55]) 0).run Tryd.prog w = .ok (fnV 53) w := fun _ => by kernel_rfl
  clear T hL
  go_enter Tryd.func12, Tryd.ntmps12
  go_wp2_with fail
  with_reducible refine Calls.mono CL.out ?_
  rintro e w' ⟨rfl, rfl⟩
  go_wp2_with fail
  with_reducible refine Calls.mono (CO.out) ?_
  rintro e w2 ⟨rfl, hb⟩
  replace HT := Lib.hid (HT.out.next hb)
  replace BB := Lib.hid (Below.andThen BB.out hb)
  clear hb
  go_wp2_with fail
  with_reducible refine Calls.mono (CW.out _ HT.out) ?_
  rintro e w3 ⟨v, rfl, ho, hb⟩
  have HO := Lib.hid (ho.lower BB.out.size)
  replace BB := Lib.hid (Below.andThen BB.out hb)
  clear ho hb
  go_wp2_with fail
  go_ret2
  exact ⟨_, rfl, HO.out, BB.out⟩
set_option maxRecDepth 100000 in
theorem words1 (n : Nat) (L : Int) (hL : L = 1 + 1) (hn : n < 1000000) (w : World) (T : Tab w) : Calls Tryd.prog 12 #[.int .i64 L, .int .i64 n] w fun e w' => ∃ v, e = .returned (.tuple #[v, .int .i64 0]) ∧ OwnS w' w.heap.size v (words 1 n) ∧ Below w.heap.size w w' := by
  have HT := Lib.hid T
  have BB := Lib.hid (Below.refl w.heap.size w)
  have CL := Lib.hid (lang_yes (L := L) (by unfold okL; omega) w)
  have CO := Lib.hid (show Calls Tryd.prog 33 #[.int .i64 L] w fun e w' => e = .returned (.agg #[fnV 56, fnV 57, fnV 58]) ∧ Below w.heap.size w w' from of_any 1 L (by decide) hL w)
  have CW := Lib.hid (fun W (T : Tab W) => (show Calls Tryd.prog 56 #[.int .i64 n] W fun e w' => ∃ v, e = .returned v ∧ OwnS w' W.heap.size v (words 1 n) ∧ Below W.heap.size W w' from germanWords_any n n rfl hn W T))
  have n1 : ¬ 999999 < (n : Int) := by omega
  have hfd : ∀ w : World, (Instr.field 55 (.agg #[fnV 56, fnV 57, fnV 58]) 0).run Tryd.prog w = .ok (fnV 56) w := fun _ => by kernel_rfl
  clear T hL
  go_enter Tryd.func12, Tryd.ntmps12
  go_wp2_with fail
  with_reducible refine Calls.mono CL.out ?_
  rintro e w' ⟨rfl, rfl⟩
  go_wp2_with fail
  with_reducible refine Calls.mono (CO.out) ?_
  rintro e w2 ⟨rfl, hb⟩
  replace HT := Lib.hid (HT.out.next hb)
  replace BB := Lib.hid (Below.andThen BB.out hb)
  clear hb
  go_wp2_with fail
  with_reducible refine Calls.mono (CW.out _ HT.out) ?_
  rintro e w3 ⟨v, rfl, ho, hb⟩
  have HO := Lib.hid (ho.lower BB.out.size)
  replace BB := Lib.hid (Below.andThen BB.out hb)
  clear ho hb
  go_wp2_with fail
  go_ret2
  exact ⟨_, rfl, HO.out, BB.out⟩
set_option maxRecDepth 100000 in
theorem words2 (n : Nat) (L : Int) (hL : L = 2 + 1) (hn : n < 1000000) (w : World) (T : Tab w) : Calls Tryd.prog 12 #[.int .i64 L, .int .i64 n] w fun e w' => ∃ v, e = .returned (.tuple #[v, .int .i64 0]) ∧ OwnS w' w.heap.size v (words 2 n) ∧ Below w.heap.size w w' := by
  have HT := Lib.hid T
  have BB := Lib.hid (Below.refl w.heap.size w)
  have CL := Lib.hid (lang_yes (L := L) (by unfold okL; omega) w)
  have CO := Lib.hid (show Calls Tryd.prog 33 #[.int .i64 L] w fun e w' => e = .returned (.agg #[fnV 59, fnV 60, fnV 61]) ∧ Below w.heap.size w w' from of_any 2 L (by decide) hL w)
  have CW := Lib.hid (fun W (T : Tab W) => (show Calls Tryd.prog 59 #[.int .i64 n] W fun e w' => ∃ v, e = .returned v ∧ OwnS w' W.heap.size v (words 2 n) ∧ Below W.heap.size W w' from spanishWords_any n n rfl hn W T))
  have n1 : ¬ 999999 < (n : Int) := by omega
  have hfd : ∀ w : World, (Instr.field 55 (.agg #[fnV 59, fnV 60, fnV 61]) 0).run Tryd.prog w = .ok (fnV 59) w := fun _ => by kernel_rfl
  clear T hL
  go_enter Tryd.func12, Tryd.ntmps12
  go_wp2_with fail
  with_reducible refine Calls.mono CL.out ?_
  rintro e w' ⟨rfl, rfl⟩
  go_wp2_with fail
  with_reducible refine Calls.mono (CO.out) ?_
  rintro e w2 ⟨rfl, hb⟩
  replace HT := Lib.hid (HT.out.next hb)
  replace BB := Lib.hid (Below.andThen BB.out hb)
  clear hb
  go_wp2_with fail
  with_reducible refine Calls.mono (CW.out _ HT.out) ?_
  rintro e w3 ⟨v, rfl, ho, hb⟩
  have HO := Lib.hid (ho.lower BB.out.size)
  replace BB := Lib.hid (Below.andThen BB.out hb)
  clear ho hb
  go_wp2_with fail
  go_ret2
  exact ⟨_, rfl, HO.out, BB.out⟩
set_option maxRecDepth 100000 in
theorem Words_any (L n : Int) (w : World) (T : Tab w) : Calls Tryd.prog 12 #[.int .i64 L, .int .i64 n] w fun e w' => ∃ v, e = .returned (.tuple #[v, .int .i64 (wO L n).2]) ∧ OwnS w' w.heap.size v (wO L n).1 ∧ Below w.heap.size w w' := by
  by_cases h : okL L ∧ 0 ≤ n ∧ n ≤ 999999
  · have e : wO L n = (words (L - 1).toNat n.toNat, 0) := if_pos h
    rw [e]
    obtain ⟨hl, h0, h1⟩ := h
    obtain ⟨k, hk, hL, hk2⟩ := okL_k hl
    rw [hk2]
    obtain ⟨m, rfl⟩ : ∃ m : Nat, n = m := ⟨n.toNat, by omega⟩
    rw [Int.toNat_natCast]
    rcases (show k = 0 ∨ k = 1 ∨ k = 2 by omega) with rfl | rfl | rfl
    · exact words0 m L hL (by omega) w T
    · exact words1 m L hL (by omega) w T
    · exact words2 m L hL (by omega) w T
  · have e : wO L n = ([], 110) := if_neg h
    rw [e]
    by_cases hl : okL L
    · have CL := Lib.hid (lang_yes hl w)
      have hn : n < 0 ∨ 999999 < n := by
        rcases Int.lt_or_le n 0 with h1 | h1
        · exact .inl h1
        · exact .inr (Int.not_le.1 fun h2 => h ⟨hl, h1, h2⟩)
      clear h hl T e
      rcases hn with hn | hn
      · go_enter Tryd.func12, Tryd.ntmps12
        go_wp2_with fail
        with_reducible refine Calls.mono CL.out ?_
        rintro e w' ⟨rfl, rfl⟩
        go_wp2_with fail
        go_ret2
        exact ⟨_, rfl, ownS_nil _ _, Below.refl _ _⟩
      · have hn2 : ¬ n < 0 := by omega
        go_enter Tryd.func12, Tryd.ntmps12
        go_wp2_with fail
        with_reducible refine Calls.mono CL.out ?_
        rintro e w' ⟨rfl, rfl⟩
        go_wp2_with fail
        go_ret2
        exact ⟨_, rfl, ownS_nil _ _, Below.refl _ _⟩
    · have CL := Lib.hid (lang_no hl w)
      clear h hl T e
      go_enter Tryd.func12, Tryd.ntmps12
      go_wp2_with fail
      with_reducible refine Calls.mono CL.out ?_
      rintro e w' ⟨rfl, rfl⟩
      go_wp2_with fail
      go_ret2
      exact ⟨_, rfl, ownS_nil _ _, Below.refl _ _⟩
set_option maxRecDepth 100000 in
theorem Number_any (L : Int) (o : Option Addr) (n c : Nat) (l : List B) (w : World) (T : Tab w) (hl : l.length = n) (hn : n ≤ 1000000) (hnc : n ≤ c) (hc2 : c ≤ 9223372036854775807) (hs : ∀ s ∈ l, s.length ≤ 1000000) (hS : SSl w o l) :
    Calls Tryd.prog 26 #[.int .i64 L, .slice o n c] w fun e w' => e = .returned (numE (nO L l)) ∧ Below w.heap.size w w' := by
  by_cases h : okL L
  · have e : nO L l = number (L - 1).toNat l := if_pos h
    rw [e]
    have CL := Lib.hid (lang_yes h w)
    obtain ⟨k, hk, hL, hk2⟩ := okL_k h
    rw [hk2]
    have HT := Lib.hid T
    have HS := Lib.hid hS
    have BB := Lib.hid (Below.refl w.heap.size w)
    have CO := Lib.hid (of_any k L hk hL w)
    have CN := Lib.hid (fun W (T : Tab W) (hS : SSl W o l) => number_any k hk o n c l W T hl hn hnc hc2 hs hS)
    generalize tongV k = V at *
    cases hr : number k l
    all_goals
      rw [hr] at CN
      unfold numV at CN
      clear hr T hS hs h hL hk2 e
      go_enter Tryd.func26, Tryd.ntmps26
      go_wp2_with fail
      with_reducible refine Calls.mono CL.out ?_
      rintro e w' ⟨rfl, rfl⟩
      go_wp2_with fail
      with_reducible refine Calls.mono CO.out ?_
      rintro e w2 ⟨rfl, hb⟩
      replace HT := Lib.hid (HT.out.next hb)
      replace HS := Lib.hid (HS.out.next hb)
      replace BB := Lib.hid (Below.andThen BB.out hb)
      clear hb
      go_wp2_with fail
      with_reducible refine Calls.mono (CN.out _ HT.out HS.out) ?_
      rintro e w3 ⟨rfl, hb⟩
      replace BB := Lib.hid (Below.andThen BB.out hb)
      clear hb
      go_wp2_with fail
      go_ret2
      exact ⟨rfl, BB.out⟩
  · have e : nO L l = none := if_neg h
    rw [e]
    have CL := Lib.hid (lang_no h w)
    clear h T hS hs e
    go_enter Tryd.func26, Tryd.ntmps26
    go_wp2_with fail
    with_reducible refine Calls.mono CL.out ?_
    rintro e w' ⟨rfl, rfl⟩
    go_wp2_with fail
    go_ret2
    exact ⟨rfl, Below.refl _ _⟩
set_option maxRecDepth 100000 in
theorem Is_any (L : Int) (s : B) (hs : s.length ≤ 1000000) (w : World) (T : Tab w) :
    Calls Tryd.prog 23 #[.int .i64 L, .string (bs s)] w fun e w' => e = .returned (.bool (iO L s)) ∧ Below w.heap.size w w' := by
  by_cases h : okL L
  · have e : iO L s = isW (L - 1).toNat s := if_pos h
    rw [e]
    have CL := Lib.hid (lang_yes h w)
    obtain ⟨k, hk, hL, hk2⟩ := okL_k h
    rw [hk2]
    have HT := Lib.hid T
    have BB := Lib.hid (Below.refl w.heap.size w)
    have CO := Lib.hid (of_any k L hk hL w)
    have CN := Lib.hid (fun W (T : Tab W) => is_any k hk s hs W T)
    generalize tongV k = V at *
    generalize isW k s = R at *
    clear T hs h hL hk2 e
    go_enter Tryd.func23, Tryd.ntmps23
    go_wp2_with fail
    with_reducible refine Calls.mono CL.out ?_
    rintro e w' ⟨rfl, rfl⟩
    go_wp2_with fail
    with_reducible refine Calls.mono (CO.out) ?_
    rintro e w2 ⟨rfl, hb⟩
    replace HT := Lib.hid (HT.out.next hb)
    replace BB := Lib.hid (Below.andThen BB.out hb)
    clear hb
    go_wp2_with fail
    with_reducible refine Calls.mono (CN.out _ HT.out) ?_
    rintro e w3 ⟨rfl, hb⟩
    replace HT := Lib.hid (HT.out.next hb)
    replace BB := Lib.hid (Below.andThen BB.out hb)
    clear hb
    go_wp2_with fail
    go_ret
    exact ⟨rfl, BB.out⟩
  · have e : iO L s = false := if_neg h
    rw [e]
    have CL := Lib.hid (lang_no h w)
    clear h T hs e
    go_enter Tryd.func23, Tryd.ntmps23
    go_wp2_with fail
    with_reducible refine Calls.mono CL.out ?_
    rintro e w' ⟨rfl, rfl⟩
    go_wp2_with fail
    go_ret
    exact ⟨rfl, Below.refl _ _⟩
end Wo
end Go.Proofs.YtebdpdmkehfgfaaDoor
