/- The reference's Prefix at any input, and its Number. -/
import Derived.Test.YtebdpdmkehfgfaaDoorWoRM
set_option linter.unusedVariables false
set_option linter.unusedSimpArgs false
namespace Go.Proofs.YtebdpdmkehfgfaaDoor
open Go.RowKit
namespace Wo
set_option maxRecDepth 100000 in
theorem rPrefix_no (L at0 : Int) (o : Option Addr) (n c : Nat) (w : World) (h : ¬ (okL L ∧ 0 ≤ at0 ∧ at0 < n)) :
    Calls Tryd.prog 29 #[.int .i64 L, .slice o n c, .int .i64 at0] w fun e w' => e = .returned (preV none) ∧ Below w.heap.size w w' := by
  by_cases l1 : L < 1
  · clear h
    go_enter Tryd.func29, Tryd.ntmps29
    go_wp2_with fail
    go_ret3
    exact ⟨rfl, Below.refl _ _⟩
  · by_cases l2 : 3 < L
    · clear h
      go_enter Tryd.func29, Tryd.ntmps29
      go_wp2_with fail
      go_ret3
      exact ⟨rfl, Below.refl _ _⟩
    · by_cases l3 : at0 < 0
      · clear h
        go_enter Tryd.func29, Tryd.ntmps29
        go_wp2_with fail
        go_ret3
        exact ⟨rfl, Below.refl _ _⟩
      · have l4 : (n : Int) ≤ at0 := by
          rcases Int.lt_or_le at0 n with h1 | h1
          · exact absurd ⟨⟨by omega, by omega⟩, by omega, h1⟩ h
          · exact h1
        clear h
        go_enter Tryd.func29, Tryd.ntmps29
        go_wp2_with fail
        go_ret3
        exact ⟨rfl, Below.refl _ _⟩
theorem rPrefix_any (L at0 : Int) (o : Option Addr) (n c : Nat) (l : List B) (w : World) (hl : l.length = n) (hn : n ≤ 1000000) (hnc : n ≤ c) (hc2 : c ≤ 9223372036854775807) (hs : ∀ s ∈ l, s.length ≤ 1000000) (hS : SSl w o l) :
    Calls Tryd.prog 29 #[.int .i64 L, .slice o n c, .int .i64 at0] w fun e w' => e = .returned (preV (pO L l at0)) ∧ Below w.heap.size w w' := by
  by_cases h : okL L ∧ 0 ≤ at0 ∧ at0 < n
  · obtain ⟨h1, h2, h3⟩ := h
    obtain ⟨k, hk, hL, hk2⟩ := okL_k h1
    obtain ⟨a, rfl⟩ : ∃ a : Nat, at0 = a := ⟨at0.toNat, by omega⟩
    have hne : l ≠ [] := fun e => by rw [e] at hl; simp at hl; omega
    obtain ⟨b, off, rfl, _, _⟩ := hS.cells hne
    have e : pO L l a = pre k l a := by
      unfold pO
      rw [if_pos ⟨h1, h2, by omega⟩, hk2, Int.toNat_natCast]
    rw [e]
    exact rPrefix_yes k a hk L (by omega) b off n c l w (by omega) ⟨hS, hl, hne, hn, hnc, hc2, hs⟩
  · have e : pO L l at0 = none := if_neg (by rw [hl]; exact h)
    rw [e]
    exact rPrefix_no L at0 o n c w h
def pN (n : Nat) : Option (Nat × Nat) → Option Nat
  | some (m, j) => if j = n then some m else none
  | none => none
theorem number_is {k : Nat} {l : List B} {m : Nat} (h : number k l = some m) : words k m = l ∧ m < 1000000 := by
  unfold number at h
  split at h
  · cases h
  · split at h
    · cases h
    · rename_i h1
      cases h
      exact ⟨Classical.byContradiction fun h2 => h1 (.inr (.inr h2)), by omega⟩
theorem nO_p (L : Int) (l : List B) : nO L l = pN l.length (pO L l 0) := by
  unfold nO
  by_cases h : okL L
  · rw [if_pos h]
    obtain ⟨k, hk, hL, hk2⟩ := okL_k h
    rw [hk2]
    by_cases hl : l = []
    · subst hl
      have e : pO L ([] : List B) 0 = none := if_neg (fun h => by have := h.2.2; simp at this)
      rw [e]
      rfl
    · have hp : 0 < l.length := List.length_pos_iff.2 hl
      have e : pO L l 0 = pre k l 0 := by
        unfold pO
        rw [if_pos ⟨h, Int.le_refl _, by omega⟩, hk2]
        rfl
      rw [e]
      cases hr : pre k l 0 with
      | none =>
        cases hm : number k l with
        | none => rfl
        | some m =>
          obtain ⟨h1, h2⟩ := number_is hm
          obtain ⟨n', m', h3, -, -⟩ := pre_max hk h2 (l := l) (t := []) (at0 := 0) (by rw [h1, List.append_nil]; rfl)
          rw [hr] at h3
          cases h3
      | some x =>
        obtain ⟨m, j⟩ := x
        obtain ⟨i1, i2, i3, i4⟩ := pre_is k l 0 hr
        by_cases hj : j = l.length
        · show _ = if j = l.length then some m else none
          rw [if_pos hj]
          have e2 : words k m = l := by
            rw [i4, hj]
            simp
          have e3 := number_words k i3
          rw [e2] at e3
          exact e3
        · show _ = if j = l.length then some m else none
          rw [if_neg hj]
          cases hm : number k l with
          | none => rfl
          | some m2 =>
            exfalso
            obtain ⟨h1, h2⟩ := number_is hm
            obtain ⟨n', m', h3, h4, -⟩ := pre_max hk h2 (l := l) (t := []) (at0 := 0) (by rw [h1, List.append_nil]; rfl)
            rw [hr] at h3
            cases h3
            rw [h1] at h4
            omega
  · rw [if_neg h]
    have e : pO L l 0 = none := if_neg (fun g => h g.1)
    rw [e]
    rfl
set_option maxRecDepth 100000 in
theorem rNumber_any (L : Int) (o : Option Addr) (n c : Nat) (l : List B) (w : World) (hl : l.length = n) (hn : n ≤ 1000000) (hnc : n ≤ c) (hc2 : c ≤ 9223372036854775807) (hs : ∀ s ∈ l, s.length ≤ 1000000) (hS : SSl w o l) :
    Calls Tryd.prog 27 #[.int .i64 L, .slice o n c] w fun e w' => e = .returned (numE (nO L l)) ∧ Below w.heap.size w w' := by
  have CP := Lib.hid (rPrefix_any L 0 o n c l w hl hn hnc hc2 hs hS)
  have e := nO_p L l
  rw [hl] at e
  rw [e]
  clear e hS hs
  obtain ⟨D, hD⟩ : ∃ D, pO L l 0 = D := ⟨_, rfl⟩
  rw [hD] at CP ⊢
  clear hD hl
  cases D with
  | none =>
    go_enter Tryd.func27, Tryd.ntmps27
    go_wp2_with fail
    with_reducible refine Calls.mono CP.out ?_
    rintro e w' ⟨rfl, hb⟩
    have BB := Lib.hid hb
    clear hb
    unfold preV
    go_wp2_with fail
    go_ret2
    exact ⟨rfl, BB.out⟩
  | some x =>
    obtain ⟨m, j⟩ := x
    have HM := Lib.hid (show j = n → pN n (some (m, j)) = some m from fun h => if_pos h)
    have HN := Lib.hid (show ¬ j = n → pN n (some (m, j)) = none from fun h => if_neg h)
    by_cases hj : j = n
    · subst hj
      have HE := Lib.hid (HM.out rfl)
      clear HM HN
      go_enter Tryd.func27, Tryd.ntmps27
      go_wp2_with fail
      with_reducible refine Calls.mono CP.out ?_
      rintro e w' ⟨rfl, hb⟩
      have BB := Lib.hid hb
      clear hb
      unfold preV
      go_wp2_with fail
      go_ret2
      exact ⟨by rw [HE.out]; rfl, BB.out⟩
    · have hji : ¬ (j : Int) = n := by omega
      have HE := Lib.hid (HN.out hj)
      clear HM HN
      go_enter Tryd.func27, Tryd.ntmps27
      go_wp2_with fail
      with_reducible refine Calls.mono CP.out ?_
      rintro e w' ⟨rfl, hb⟩
      have BB := Lib.hid hb
      clear hb
      unfold preV
      go_wp2_with fail
      go_ret2
      exact ⟨by rw [HE.out]; rfl, BB.out⟩
end Wo
end Go.Proofs.YtebdpdmkehfgfaaDoor
