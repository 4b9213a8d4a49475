/- Helpers of the laws: pick, begins, Same, plain. -/
import Derived.Test.YtebdpdmkehfgfaaDoorWoT
set_option linter.unusedVariables false
set_option linter.unusedSimpArgs false
namespace Go.Proofs.YtebdpdmkehfgfaaDoor
open Go.RowKit
namespace Wo
set_option maxRecDepth 100000 in
theorem Prefix_any (L at0 : Int) (o : Option Addr) (n c : Nat) (l : List B) (w : World) (T : Tab w) (hl : l.length = n) (hn : n ≤ 1000000) (hnc : n ≤ c) (hc2 : c ≤ 9223372036854775807) (hs : ∀ s ∈ l, s.length ≤ 1000000) (hS : SSl w o l) :
    Calls Tryd.prog 28 #[.int .i64 L, .slice o n c, .int .i64 at0] w fun e w' => e = .returned (preV (pO L l at0)) ∧ Below w.heap.size w w' := by
  by_cases h : okL L ∧ 0 ≤ at0 ∧ at0 < n
  · obtain ⟨h1, h2, h3⟩ := h
    obtain ⟨k, hk, hL, hk2⟩ := okL_k h1
    obtain ⟨a, rfl⟩ : ∃ a : Nat, at0 = a := ⟨at0.toNat, by omega⟩
    have hne : l ≠ [] := fun e => by rw [e] at hl; simp at hl; omega
    obtain ⟨b, off, rfl, _, _⟩ := hS.cells hne
    have e : pO L l a = pre k l a := by
      unfold pO
      rw [if_pos ⟨h1, h2, by omega⟩, hk2, Int.toNat_natCast]
    rw [e]
    exact Prefix_yes k a hk L hL b off n c l w T (by omega) ⟨hS, hl, hne, hn, hnc, hc2, hs⟩
  · have e : pO L l at0 = none := if_neg (by rw [hl]; exact h)
    rw [e]
    exact Prefix_no L at0 o n c w hn h
def pickZ (c n : Int) : Int := (if c < 0 then -(c + 1) else c) % n
set_option maxHeartbeats 400000 in
theorem pick_w (c n : Int) (w : World) (hn : 0 < n) (hc' : -9223372036854775808 ≤ c) (hc : c ≤ 9223372036854775807) :
    Calls Tryd.prog 11 #[.int .i64 c, .int .i64 n] w fun e w' => e = .returned (.int .i64 (pickZ c n)) ∧ w = w' := by
  by_cases h : c < 0
  · have h0 : 0 ≤ -(c + 1) := by omega
    have e : (-(c + 1)).tmod n = pickZ c n := by rw [Int.tmod_eq_emod_of_nonneg h0]; simp [pickZ, h]
    have E := Lib.hid e
    clear e
    go_enter Tryd.func11, Tryd.ntmps11
    go_wp2
    go_ret
    exact ⟨retv (vint (by rw [← E.out, Int.neg_tmod])), rfl⟩
  · have h0 : 0 ≤ c := by omega
    have e : c % n = pickZ c n := by simp [pickZ, h]
    have E := Lib.hid e
    clear e
    go_enter Tryd.func11, Tryd.ntmps11
    go_wp2
    go_ret
    exact ⟨retv (vint E.out), rfl⟩
theorem pick_in (c : Int) {n : Int} (hn : 0 < n) : 0 ≤ pickZ c n ∧ pickZ c n < n := ⟨Int.emod_nonneg _ (by omega), Int.emod_lt_of_pos _ hn⟩
theorem pick_nat (c : Int) {n : Nat} (hn : 0 < n) : ∃ k : Nat, pickZ c n = (k : Int) ∧ k < n := by
  have h := pick_in c (n := n) (by omega)
  exact ⟨(pickZ c n).toNat, by omega, by omega⟩
/-- do words stand in a list at an index? -/
def begB (l : List B) (a : Nat) (ws : List B) : Bool := decide ((l.drop a).take ws.length = ws)
theorem beg_no {l : List B} {a i : Nat} {ws : List B} (hi : i < ws.length) (ha : a + ws.length ≤ l.length) (h : l.getD (a + i) [] ≠ ws.getD i []) : begB l a ws = false := by
  apply decide_eq_false
  intro e
  have h1 : ((l.drop a).take ws.length)[i]? = ws[i]? := by rw [e]
  rw [List.getElem?_take, if_pos hi, List.getElem?_drop, getD_get (by omega), getD_get hi] at h1
  exact h (Option.some.inj h1)
theorem beg_yes {l : List B} {a : Nat} {ws : List B} (ha : a + ws.length ≤ l.length) (h : ∀ i, i < ws.length → l.getD (a + i) [] = ws.getD i []) : begB l a ws = true := by
  apply decide_eq_true
  apply List.ext_getElem?
  intro i
  rw [List.getElem?_take]
  split
  · rename_i hi
    rw [List.getElem?_drop, getD_get (by omega), getD_get hi, h i hi]
  · rename_i hi
    rw [List.getElem?_eq_none (by omega)]
theorem beg_long {l : List B} {a : Nat} {ws : List B} (ha : a ≤ l.length) (h : l.length < a + ws.length) : begB l a ws = false := by
  apply decide_eq_false
  intro e
  have := congrArg List.length e
  rw [List.length_take, List.length_drop] at this
  omega
set_option maxRecDepth 100000 in
set_option maxHeartbeats 2000000 in
theorem begins_any (o1 o2 : Option Addr) (n1 c1 n2 c2 a : Nat) (A : Int) (hA : A = a) (l ws : List B) (w : World) (h1 : l.length = n1) (h2 : ws.length = n2) (hn1 : n1 ≤ 1000000) (hn2 : n2 ≤ 1000000) (ha : a ≤ n1) (hS1 : SSl w o1 l) (hS2 : SSl w o2 ws) :
    Calls Tryd.prog 42 #[.slice o1 n1 c1, .int .i64 A, .slice o2 n2 c2] w fun e w' => e = .returned (.bool (begB l a ws)) ∧ Below w.heap.size w w' := by
  subst hA
  by_cases hl : n1 < a + n2
  · rw [beg_long (by omega) (by omega)]
    clear hS1 hS2 h1 h2
    go_enter Tryd.func42, Tryd.ntmps42
    go_wp2_with fail
    go_ret
    exact ⟨rfl, Below.refl _ _⟩
  · have HS1 := Lib.hid hS1
    have HS2 := Lib.hid hS2
    have H1 := Lib.hid h1
    have H2 := Lib.hid h2
    have HB := Lib.hid (fun i => beg_no (l := l) (a := a) (i := i) (ws := ws))
    have HY := Lib.hid (beg_yes (l := l) (a := a) (ws := ws))
    generalize begB l a ws = R at *
    clear hS1 hS2 h1 h2
    go_enter Tryd.func42, Tryd.ntmps42
    go_wp2_with fail
    go_loopw [7] (fun iv wr => ∃ i : Nat, iv = .int .i64 i ∧ i ≤ n2 ∧ (∀ j, j < i → l.getD (a + j) [] = ws.getD j []) ∧ Below w.heap.size w wr) (fun iv _ => n2 - (intOf iv).toNat)
    case atStart => exact ⟨0, rfl, Nat.zero_le _, fun j hj => absurd hj (Nat.not_lt_zero _), Below.refl _ _⟩
    case round =>
      obtain ⟨i, rfl, hi, hE, hB⟩ := hrel
      have HE := Lib.hid hE
      have BB := Lib.hid hB
      clear hE hB
      by_cases hlt : i < n2
      · obtain ⟨b1, f1, rfl, hb1, hc1⟩ := (HS1.out.next BB.out).cells (fun e => by have := H1.out; rw [e] at this; simp at this; omega)
        obtain ⟨b2, f2, rfl, hb2, hc2⟩ := (HS2.out.next BB.out).cells (fun e => by have := H2.out; rw [e] at this; simp at this; omega)
        have k1 := hc1 (a + i) _ (getD_get (by rw [H1.out]; omega))
        have k2 := hc2 i _ (getD_get (by rw [H2.out]; exact hlt))
        have hi1 : ((a + i : Nat) : Int) = a + i := by omega
        have hi2 : (a : Int) + i < n1 := by omega
        have HBi := Lib.hid (HB.out i (by rw [H2.out]; exact hlt) (by rw [H1.out, H2.out]; omega))
        generalize hx : l.getD (a + i) [] = x at *
        generalize hy : ws.getD i [] = y at *
        clear hc1 hc2
        by_cases hxy : x = y
        · have hb : ((bs x).toList == (bs y).toList) = true := by rw [beq_bs]; exact decide_eq_true hxy
          have HM := Lib.hid (show ∀ j, j < i + 1 → l.getD (a + j) [] = ws.getD j [] from fun j hj => by
            rcases Nat.lt_succ_iff_lt_or_eq.1 hj with h | rfl
            · exact HE.out j h
            · rw [hx, hy]; exact hxy)
          clear hxy hx hy HBi
          go_upto_region 6 with (fail)
          refine wp_region_kin (by kernel_rfl) (by kernel_rfl) wr.heap.size 0 (by simp) (fun hk => ?_)
          repeat (go_big_quiet_step (fail))
          refine wpQuiet_nil ?_
          clear hk
          intro w5 hb5
          have HB5 := Lib.hid hb5
          clear hb5 k1 k2
          go_wp2_with fail
          go_roundw
          case rel => exact ⟨i + 1, by go_num, by omega, HM.out, Below.andThen BB.out HB5.out⟩
          case measure => simp [intOf]; omega
        · have hb : ((bs x).toList == (bs y).toList) = false := by rw [beq_bs]; exact decide_eq_false hxy
          have HR := Lib.hid (HBi.out hxy)
          clear hxy hx hy HBi
          go_upto_region 6 with (fail)
          refine wp_region_kin (by kernel_rfl) (by kernel_rfl) wr.heap.size 0 (by simp) (fun hk => ?_)
          repeat (go_big_quiet_step (fail))
          refine wpQuiet_nil ?_
          clear hk
          intro w5 hb5
          have HB5 := Lib.hid hb5
          clear hb5 k1 k2
          go_wp2_with fail
          go_ret
          exact ⟨retv (vbool HR.out.symm), Below.andThen BB.out HB5.out⟩
      · obtain rfl : i = n2 := by omega
        have HR := Lib.hid (HY.out (by rw [H1.out, H2.out]; omega) (by rw [H2.out]; exact HE.out))
        go_wp2_with fail
        go_ret
        exact ⟨retv (vbool HR.out.symm), BB.out⟩
set_option maxRecDepth 100000 in
theorem Same_any (o1 o2 : Option Addr) (n1 c1 n2 c2 : Nat) (l ws : List B) (w : World) (h1 : l.length = n1) (h2 : ws.length = n2) (hn1 : n1 ≤ 1000000) (hn2 : n2 ≤ 1000000) (hS1 : SSl w o1 l) (hS2 : SSl w o2 ws) :
    Calls Tryd.prog 18 #[.slice o1 n1 c1, .slice o2 n2 c2] w fun e w' => e = .returned (.bool (decide (l = ws))) ∧ Below w.heap.size w w' := by
  by_cases hl : n1 = n2
  · subst hl
    have C := Lib.hid (begins_any o1 o2 n1 c1 n1 c2 0 0 rfl l ws w h1 h2 hn1 hn2 (Nat.zero_le _) hS1 hS2)
    have e : begB l 0 ws = decide (l = ws) := by
      unfold begB
      rw [List.drop_zero, List.take_of_length_le (by rw [h1, h2]; exact Nat.le_refl _)]
    rw [e] at C
    generalize decide (l = ws) = R at *
    clear hS1 hS2 h1 h2 e
    go_enter Tryd.func18, Tryd.ntmps18
    go_wp2_with fail
    with_reducible refine Calls.mono C.out ?_
    rintro e w2 ⟨rfl, hb⟩
    have HB := Lib.hid hb
    clear hb
    go_wp2_with fail
    go_ret
    exact ⟨rfl, HB.out⟩
  · rw [decide_eq_false (fun h : l = ws => hl (by rw [← h1, ← h2, h]))]
    have d : ((n1 : Int) == n2) = false := by simp; omega
    clear hS1 hS2 h1 h2
    go_enter Tryd.func18, Tryd.ntmps18
    go_wp2_with fail
    go_ret
    exact ⟨rfl, Below.refl _ _⟩
end Wo
end Go.Proofs.YtebdpdmkehfgfaaDoor
