/- The reference's Words at any input; what the reference's Prefix finds by trying all numbers, as mathematics. -/
import Derived.Test.YtebdpdmkehfgfaaDoorWoGB
set_option linter.unusedVariables false
set_option linter.unusedSimpArgs false
namespace Go.Proofs.YtebdpdmkehfgfaaDoor
open Go.RowKit
namespace Wo
set_option maxRecDepth 100000 in
theorem rWords_any (L n : Int) (w : World) : Calls Tryd.prog 13 #[.int .i64 L, .int .i64 n] w fun e w' => ∃ v, e = .returned (.tuple #[v, .int .i64 (wO L n).2]) ∧ Vw w' v (wO L n).1 ∧ Below w.heap.size w w' := by
  by_cases h : okL L ∧ 0 ≤ n ∧ n ≤ 999999
  · have e : wO L n = (words (L - 1).toNat n.toNat, 0) := if_pos h
    rw [e]
    obtain ⟨hl, h0, h1⟩ := h
    obtain ⟨k, hk, hL, hk2⟩ := okL_k hl
    rw [hk2]
    obtain ⟨m, rfl⟩ : ∃ m : Nat, n = m := ⟨n.toNat, by omega⟩
    rw [Int.toNat_natCast]
    exact rWords_k k L m m hk (by omega) rfl (by omega) w
  · have e : wO L n = ([], 110) := if_neg h
    rw [e]
    have HV : Vw w (.slice none 0 0) [] := ⟨none, 0, rfl, Nat.le_refl _, by decide, fun _ => rfl, .inl rfl⟩
    clear e
    by_cases l1 : L < 1
    · clear h
      go_enter Tryd.func13, Tryd.ntmps13
      go_wp2_with fail
      go_ret2
      exact ⟨_, rfl, HV, Below.refl _ _⟩
    · by_cases l2 : 3 < L
      · clear h
        go_enter Tryd.func13, Tryd.ntmps13
        go_wp2_with fail
        go_ret2
        exact ⟨_, rfl, HV, Below.refl _ _⟩
      · by_cases l3 : n < 0
        · clear h
          go_enter Tryd.func13, Tryd.ntmps13
          go_wp2_with fail
          go_ret2
          exact ⟨_, rfl, HV, Below.refl _ _⟩
        · have l4 : 999999 < n := by
            rcases Int.lt_or_le 999999 n with h1 | h1
            · exact h1
            · exact absurd ⟨⟨by omega, by omega⟩, by omega, h1⟩ h
          clear h
          go_enter Tryd.func13, Tryd.ntmps13
          go_wp2_with fail
          go_ret2
          exact ⟨_, rfl, HV, Below.refl _ _⟩
theorem beg_iff {l : List B} {a : Nat} {ws : List B} : begB l a ws = true ↔ ∃ t, l.drop a = ws ++ t := by
  unfold begB
  rw [decide_eq_true_iff]
  constructor
  · intro h
    exact ⟨(l.drop a).drop ws.length, by conv => rhs; rw [← h, List.length_take]; first | done | skip
                                         rw [show (l.drop a) = (l.drop a).take ws.length ++ (l.drop a).drop ws.length from (List.take_append_drop _ _).symm]
                                         simp [h]⟩
  · rintro ⟨t, h⟩
    rw [h, List.take_left]
theorem beg_app {l : List B} {a : Nat} {u v : List B} (h : begB l a u = true) : begB l a (u ++ v) = begB l (a + u.length) v := by
  obtain ⟨t, ht⟩ := beg_iff.1 h
  have e : l.drop (a + u.length) = t := by rw [← List.drop_drop, ht, List.drop_left]
  rw [Bool.eq_iff_iff, beg_iff, beg_iff, e]
  constructor
  · rintro ⟨s, hs⟩
    rw [ht, List.append_assoc] at hs
    exact ⟨s, List.append_cancel_left hs⟩
  · rintro ⟨s, hs⟩
    exact ⟨s, by rw [ht, hs, List.append_assoc]⟩
theorem beg_head {l : List B} {a : Nat} {u v : List B} (h : begB l a u = false) : begB l a (u ++ v) = false := by
  cases e : begB l a (u ++ v) with
  | false => rfl
  | true =>
    obtain ⟨s, hs⟩ := beg_iff.1 e
    rw [beg_iff.2 ⟨v ++ s, by rw [hs, List.append_assoc]⟩] at h
    cases h
/-- the best of the numbers from 1 to N - 1 whose words stand at an index -/
def St (k : Nat) (l : List B) (a N best many : Nat) : Prop :=
  (∀ n, 0 < n → n < N → begB l a (words k n) = true → (words k n).length ≤ many) ∧
  ((many = 0 ∧ best = 0) ∨ (0 < best ∧ best < 1000000 ∧ begB l a (words k best) = true ∧ many = (words k best).length))
theorem st_zero (k : Nat) (l : List B) (a : Nat) : St k l a 1 0 0 := ⟨fun n h1 h2 => by omega, .inl ⟨rfl, rfl⟩⟩
theorem st_no {k : Nat} {l : List B} {a N b m : Nat} (h : St k l a N b m) (hN : begB l a (words k N) = true → (words k N).length ≤ m) : St k l a (N + 1) b m :=
  ⟨fun n h1 h2 h3 => by
    rcases Nat.lt_succ_iff_lt_or_eq.1 h2 with h4 | rfl
    · exact h.1 n h1 h4 h3
    · exact hN h3, h.2⟩
theorem st_yes {k : Nat} {l : List B} {a N b m : Nat} (h : St k l a N b m) (h0 : 0 < N) (h6 : N < 1000000) (hb : begB l a (words k N) = true) (hm : m < (words k N).length) : St k l a (N + 1) N (words k N).length :=
  ⟨fun n h1 h2 h3 => by
    rcases Nat.lt_succ_iff_lt_or_eq.1 h2 with h4 | rfl
    · have := h.1 n h1 h4 h3
      omega
    · exact Nat.le_refl _, .inr ⟨h0, h6, hb, rfl⟩⟩
/-- no number of a thousand stands there, if the thousand's words don't -/
theorem st_skip {k : Nat} (hk : k < 3) {l : List B} {a q b m : Nat} (h : St k l a (1000 * q) b m) (hq : 0 < q) (hq9 : q < 1000) (hb : begB l a (words k (1000 * q)) = false) : St k l a (1000 * (q + 1)) b m :=
  ⟨fun n h1 h2 h3 => by
    rcases Nat.lt_or_ge n (1000 * q) with h4 | h4
    · exact h.1 n h1 h4 h3
    · exfalso
      by_cases hz : n % 1000 = 0
      · rw [show n = 1000 * q by omega] at h3
        rw [h3] at hb
        cases hb
      · rw [words_split k (by omega) hz, show n - n % 1000 = 1000 * q by omega, beg_head hb] at h3
        exact absurd h3 (by simp), h.2⟩
/-- the best of all is what Prefix finds -/
theorem st_end {k : Nat} (hk : k < 3) {l : List B} {a b m : Nat} (h : St k l a 1000000 b m) (hz : begB l a (words k 0) = false) : pre k l a = if 0 < m then some (b, m) else none := by
  rcases h.2 with ⟨rfl, rfl⟩ | ⟨h1, h2, h3, rfl⟩
  · rw [if_neg (by omega)]
    refine pre_none fun n t hn e => ?_
    have hb : begB l a (words k n) = true := beg_iff.2 ⟨t, e⟩
    by_cases h0 : n = 0
    · rw [h0, hz] at hb
      cases hb
    · have h4 := h.1 n (by omega) hn hb
      have := (words_len k hn).1
      omega
  · have hl := words_len k h2
    rw [if_pos (by omega)]
    obtain ⟨t, ht⟩ := beg_iff.1 h3
    obtain ⟨n', m', hp, hm, he⟩ := pre_max hk h2 ht
    obtain ⟨p1, p2, p3, p4⟩ := pre_is k l a hp
    have hb : begB l a (words k n') = true := beg_iff.2 ⟨(l.drop a).drop m', by rw [p4, List.take_append_drop]⟩
    have hlen : (words k n').length = m' := by rw [p4, List.length_take, List.length_drop]; omega
    by_cases h0 : n' = 0
    · rw [h0, hz] at hb
      cases hb
    · have h5 := h.1 n' (by omega) p3 hb
      have h6 : (words k b).length = m' := by omega
      rw [hp, he h6, hlen]
/-- the word for zero stands alone -/
theorem zero_pre {k : Nat} (hk : k < 3) {l : List B} {a : Nat} (hz : begB l a (words k 0) = true) : pre k l a = some (0, 1) := by
  obtain ⟨t, ht⟩ := beg_iff.1 hz
  obtain ⟨n', m', hp, hm, he⟩ := pre_max hk (n := 0) (by decide) ht
  obtain ⟨p1, p2, p3, p4⟩ := pre_is k l a hp
  have h1 : (words k n').head? = (words k 0).head? := by
    rw [p4, ht]
    have l0 := (words_len k (n := 0) (by decide)).1
    obtain ⟨c, hc⟩ : ∃ c, m' = c + 1 := ⟨m' - 1, by omega⟩
    cases e : words k 0 with
    | nil => rw [e] at l0; simp at l0
    | cons x r => rw [hc]; rfl
  obtain rfl := zero_first hk p3 h1
  have h2 : (words k 0).length = 1 := by rcases (show k = 0 ∨ k = 1 ∨ k = 2 by omega) with rfl | rfl | rfl <;> rfl
  have h3 : (words k 0).length = m' := by rw [p4, List.length_take, List.length_drop]; omega
  rw [hp, ← h3, h2]
end Wo
end Go.Proofs.YtebdpdmkehfgfaaDoor
