/- The reference's names of months and days. -/
import Derived.Test.YtebdpdmkehfgfaaDoorWoZ
set_option linter.unusedVariables false
set_option linter.unusedSimpArgs false
namespace Go.Proofs.YtebdpdmkehfgfaaDoor
open Go.RowKit
namespace Wo
theorem two_ssl (w : World) (t : TypeId) (a b : List B) : SSl ((w.alloc (.cells (a.map sV).toArray t)).alloc (.cells (b.map sV).toArray t)) (some ⟨w.heap.size + 1, 0, none⟩) b := by
  have h := ssl_new (w.alloc (.cells (a.map sV).toArray t)) t b
  rw [World.size_alloc] at h
  exact h
set_option maxRecDepth 100000 in
set_option maxHeartbeats 1000000 in
theorem rnames (k : Nat) (L : Int) (hk : k < 3) (hL : L = 1 + k) (w : World) : Calls Tryd.prog 39 #[.int .i64 L] w fun e w' => ∃ b1 b2, e = .returned (.tuple #[.slice (some ⟨b1, 0, none⟩) 12 12, .slice (some ⟨b2, 0, none⟩) 7 7]) ∧ SSl w' (some ⟨b1, 0, none⟩) (months k) ∧ SSl w' (some ⟨b2, 0, none⟩) (days k) ∧ Below w.heap.size w w' := by
  subst hL
  rcases (show k = 0 ∨ k = 1 ∨ k = 2 by omega) with rfl | rfl | rfl
  · go_enter Tryd.func39, Tryd.ntmps39
    go_wp2_with fail
    go_ret2
    exact ⟨_, _, rfl, (ssl_new w 9 (months 0)).next ((Below.refl _ _).alloc (Nat.le_refl _) _), two_ssl w 9 (months 0) (days 0), ((Below.refl _ _).alloc (Nat.le_refl _) _).alloc (by simp) _⟩
  · go_enter Tryd.func39, Tryd.ntmps39
    go_wp2_with fail
    go_ret2
    exact ⟨_, _, rfl, (ssl_new w 9 (months 1)).next ((Below.refl _ _).alloc (Nat.le_refl _) _), two_ssl w 9 (months 1) (days 1), ((Below.refl _ _).alloc (Nat.le_refl _) _).alloc (by simp) _⟩
  · go_enter Tryd.func39, Tryd.ntmps39
    go_wp2_with fail
    go_ret2
    exact ⟨_, _, rfl, (ssl_new w 9 (months 2)).next ((Below.refl _ _).alloc (Nat.le_refl _) _), two_ssl w 9 (months 2) (days 2), ((Below.refl _ _).alloc (Nat.le_refl _) _).alloc (by simp) _⟩
set_option maxRecDepth 100000 in
theorem rname (o : Option Addr) (n c : Nat) (l : List B) (i : Int) (w : World) (hl : l.length = n) (hn : n ≤ 1000) (hi : i ≤ 9223372036854775807) (hS : SSl w o l) :
    Calls Tryd.prog 40 #[.slice o n c, .int .i64 i] w fun e w' => e = .returned (.tuple #[sV (nm l 0 i).1, .int .i64 (nm l 0 i).2]) ∧ w = w' := by
  by_cases h : i < 0 ∨ (n : Int) ≤ i
  · have e : nm l 0 i = ([], 110) := if_pos (by rw [hl]; omega)
    rw [e]
    clear hS hl e
    rcases h with h | h
    · go_enter Tryd.func40, Tryd.ntmps40
      go_wp2_with fail
      go_ret2
      exact ⟨rfl, rfl⟩
    · have h2 : ¬ i < 0 := by omega
      go_enter Tryd.func40, Tryd.ntmps40
      go_wp2_with fail
      go_ret2
      exact ⟨rfl, rfl⟩
  · obtain ⟨j, rfl⟩ : ∃ j : Nat, i = j := ⟨i.toNat, by omega⟩
    have hjn : j < n := by omega
    have e : nm l 0 j = (l.getD j [], 0) := (if_neg (by omega)).trans (by rw [show ((j : Int) - 0).toNat = j by omega])
    rw [e]
    obtain ⟨b, off, rfl, hb, hc⟩ := hS.cells (fun e => by rw [e] at hl; simp at hl; omega)
    have c3 := hc j _ (getD_get (by omega))
    generalize l.getD j [] = x at *
    clear hS hc hl e h
    go_enter Tryd.func40, Tryd.ntmps40
    go_wp2_with fail
    go_ret2
    exact ⟨rfl, rfl⟩
theorem nm_shift (l : List B) (n : Int) : nm l 0 (n - 1) = nm l 1 n := by
  unfold nm
  have e1 : (n - 1 < 0 ∨ (l.length : Int) ≤ n - 1 - 0) = (n < 1 ∨ (l.length : Int) ≤ n - 1) := by
    apply propext
    constructor <;> (intro h; omega)
  simp only [e1]
  rw [show (n - 1 - 0) = n - 1 by omega]
theorem nm_nil (f n : Int) : nm [] f n = ([], 110) := if_pos (by
  rcases Int.lt_or_le n f with h | h
  · exact .inl h
  · exact .inr (by simp; omega))
theorem nm_low {l : List B} {f n : Int} (h : n < f) : nm l f n = ([], 110) := if_pos (.inl h)
set_option maxRecDepth 100000 in
theorem rMonth (L n : Int) (w : World) (hn : n ≤ 9223372036854775807) : Calls Tryd.prog 15 #[.int .i64 L, .int .i64 n] w fun e w' => e = .returned (.tuple #[sV (nm (mO L) 1 n).1, .int .i64 (nm (mO L) 1 n).2]) ∧ Below w.heap.size w w' := by
  by_cases h : okL L ∧ 1 ≤ n
  · obtain ⟨hl, h1⟩ := h
    obtain ⟨k, hk, hL, hk2⟩ := okL_k hl
    rw [mO_k hk (by omega : L = 1 + k)]
    have CN := Lib.hid (rnames k L hk (by omega) w)
    have CM := Lib.hid (fun W b (hS : SSl W (some ⟨b, 0, none⟩) (months k)) => (show Calls Tryd.prog 40 #[.slice (some ⟨b, 0, none⟩) 12 12, .int .i64 (n - 1)] W fun e w' => e = .returned (.tuple #[sV (nm (months k) 1 n).1, .int .i64 (nm (months k) 1 n).2]) ∧ W = w' from by
      have h := rname (some ⟨b, 0, none⟩) 12 12 (months k) (n - 1) W (months_len hk) (by decide) (by omega) hS
      rw [nm_shift] at h
      exact h))
    have l1 : ¬ L < 1 := by have := hl.1; omega
    have l2 : ¬ 3 < L := by have := hl.2; omega
    have l3 : ¬ n < 1 := by omega
    clear hl hL hk2
    go_enter Tryd.func15, Tryd.ntmps15
    go_wp2_with fail
    with_reducible refine Calls.mono CN.out ?_
    rintro e w2 ⟨b1, b2, rfl, hS, -, hb⟩
    have HS := Lib.hid hS
    have BB := Lib.hid hb
    clear hS hb
    go_wp2_with fail
    with_reducible refine Calls.mono (CM.out _ _ HS.out) ?_
    rintro e w' ⟨rfl, rfl⟩
    go_wp2_with fail
    go_ret2
    exact ⟨rfl, BB.out⟩
  · have e : nm (mO L) 1 n = ([], 110) := by
      by_cases hl : okL L
      · exact nm_low (by
          rcases Int.lt_or_le n 1 with h1 | h1
          · exact h1
          · exact absurd ⟨hl, h1⟩ h)
      · rw [show mO L = [] from if_neg hl]
        exact nm_nil _ _
    rw [e]
    clear e
    by_cases l1 : L < 1
    · clear h
      go_enter Tryd.func15, Tryd.ntmps15
      go_wp2_with fail
      go_ret2
      exact ⟨rfl, Below.refl _ _⟩
    · by_cases l2 : 3 < L
      · clear h
        go_enter Tryd.func15, Tryd.ntmps15
        go_wp2_with fail
        go_ret2
        exact ⟨rfl, Below.refl _ _⟩
      · have l3 : n < 1 := by
          rcases Int.lt_or_le n 1 with h1 | h1
          · exact h1
          · exact absurd ⟨⟨by omega, by omega⟩, h1⟩ h
        clear h
        go_enter Tryd.func15, Tryd.ntmps15
        go_wp2_with fail
        go_ret2
        exact ⟨rfl, Below.refl _ _⟩
set_option maxRecDepth 100000 in
theorem rWeekday (L n : Int) (w : World) (hn : n ≤ 9223372036854775807) : Calls Tryd.prog 17 #[.int .i64 L, .int .i64 n] w fun e w' => e = .returned (.tuple #[sV (nm (dO L) 0 n).1, .int .i64 (nm (dO L) 0 n).2]) ∧ Below w.heap.size w w' := by
  by_cases hl : okL L
  · obtain ⟨k, hk, hL, hk2⟩ := okL_k hl
    rw [dO_k hk (by omega : L = 1 + k)]
    have CN := Lib.hid (rnames k L hk (by omega) w)
    have CM := Lib.hid (fun W b (hS : SSl W (some ⟨b, 0, none⟩) (days k)) => rname (some ⟨b, 0, none⟩) 7 7 (days k) n W (days_len hk) (by decide) hn hS)
    have l1 : ¬ L < 1 := by have := hl.1; omega
    have l2 : ¬ 3 < L := by have := hl.2; omega
    clear hl hL hk2
    go_enter Tryd.func17, Tryd.ntmps17
    go_wp2_with fail
    with_reducible refine Calls.mono CN.out ?_
    rintro e w2 ⟨b1, b2, rfl, -, hS, hb⟩
    have HS := Lib.hid hS
    have BB := Lib.hid hb
    clear hS hb
    go_wp2_with fail
    with_reducible refine Calls.mono (CM.out _ _ HS.out) ?_
    rintro e w' ⟨rfl, rfl⟩
    go_wp2_with fail
    go_ret2
    exact ⟨rfl, BB.out⟩
  · have e : nm (dO L) 0 n = ([], 110) := by rw [show dO L = [] from if_neg hl]; exact nm_nil _ _
    rw [e]
    clear e
    by_cases l1 : L < 1
    · clear hl
      go_enter Tryd.func17, Tryd.ntmps17
      go_wp2_with fail
      go_ret2
      exact ⟨rfl, Below.refl _ _⟩
    · have l2 : 3 < L := by
        rcases Int.lt_or_le 3 L with h | h
        · exact h
        · exact absurd ⟨by omega, h⟩ hl
      clear hl
      go_enter Tryd.func17, Tryd.ntmps17
      go_wp2_with fail
      go_ret2
      exact ⟨rfl, Below.refl _ _⟩
theorem nm_in {l : List B} {i : Nat} (f n : Int) (hn : n = i + f) (hi : i < l.length) : nm l f n = (l.getD i [], 0) := (if_neg (by omega)).trans (by rw [show (n - f).toNat = i by omega])
theorem nm_out {l : List B} {i : Nat} (f n : Int) (hn : n = i + f) (hi : ¬ i < l.length) : nm l f n = ([], 110) := if_pos (by omega)
set_option maxRecDepth 100000 in
set_option maxHeartbeats 1000000 in
theorem rMonthOf (L : Int) (s : B) (w : World) : Calls Tryd.prog 20 #[.int .i64 L, .string (bs s)] w fun e w' => e = .returned (.tuple #[.int .i64 (nu (mO L) 1 s).1, .int .i64 (nu (mO L) 1 s).2]) ∧ Below w.heap.size w w' := by
  have CM := Lib.hid (fun n (hn : n ≤ 9223372036854775807) W => rMonth L n W hn)
  have LN := Lib.hid (mO_len L)
  have HN := Lib.hid (fun (h : idx s (mO L) = none) => show nu (mO L) 1 s = (0, 110) from by unfold nu; rw [h])
  have HS := Lib.hid (fun i (h : idx s (mO L) = some i) => show nu (mO L) 1 s = ((i : Int) + 1, 0) from by unfold nu; rw [h])
  generalize nu (mO L) 1 s = R at *
  generalize mO L = l at *
  go_enter Tryd.func20, Tryd.ntmps20
  go_wp2_with fail
  go_loopw [6] (fun nv wr => ∃ i : Nat, nv = .int .i64 ((i : Int) + 1) ∧ i ≤ 12 ∧ (∀ j, j < i → j < l.length → l.getD j [] ≠ s) ∧ Below w.heap.size w wr) (fun nv _ => 12 + 1 - (intOf nv).toNat)
  case atStart => exact ⟨0, rfl, Nat.zero_le _, fun j hj => absurd hj (Nat.not_lt_zero _), Below.refl _ _⟩
  case round =>
    obtain ⟨i, rfl, hi, hne, hB⟩ := hrel
    have HE := Lib.hid hne
    have BB := Lib.hid hB
    clear hne hB
    by_cases hlt : i < 12
    · have CMi := Lib.hid (fun W => CM.out ((i : Int) + 1) (by omega) W)
      by_cases hil : i < l.length
      · rw [nm_in 1 _ (by omega) hil] at CMi
        obtain ⟨x, hx⟩ : ∃ x, l.getD i [] = x := ⟨_, rfl⟩
        rw [hx] at CMi
        by_cases hxs : x = s
        · have hb : ((bs x).toList == (bs s).toList) = true := by rw [beq_bs]; exact decide_eq_true hxs
          have HR := Lib.hid (HS.out i (idx_some hil (hx.trans hxs) (fun j hj => HE.out j hj (by omega))))
          clear hxs hx
          go_wp2_with fail
          with_reducible refine Calls.mono (CMi.out _) ?_
          rintro e w2 ⟨rfl, hb2⟩
          have BB2 := Lib.hid (Below.andThen BB.out hb2)
          clear hb2
          go_wp2_with fail
          go_ret2
          exact ⟨by rw [HR.out]; first | rfl | simp, BB2.out⟩
        · have hb : ((bs x).toList == (bs s).toList) = false := by rw [beq_bs]; exact decide_eq_false hxs
          have HM := Lib.hid (show ∀ j, j < i + 1 → j < l.length → l.getD j [] ≠ s from fun j hj hjl => by
            rcases Nat.lt_succ_iff_lt_or_eq.1 hj with h | rfl
            · exact HE.out j h hjl
            · rw [hx]; exact hxs)
          clear hxs hx
          go_wp2_with fail
          with_reducible refine Calls.mono (CMi.out _) ?_
          rintro e w2 ⟨rfl, hb2⟩
          have BB2 := Lib.hid (Below.andThen BB.out hb2)
          clear hb2
          go_wp2_with fail
          go_roundw
          case rel => exact ⟨i + 1, by go_num, by omega, HM.out, BB2.out⟩
          case measure => simp [intOf]; omega
      · rw [nm_out 1 _ (by omega) hil] at CMi
        have HM := Lib.hid (show ∀ j, j < i + 1 → j < l.length → l.getD j [] ≠ s from fun j hj hjl => HE.out j (by omega) hjl)
        go_wp2_with fail
        with_reducible refine Calls.mono (CMi.out _) ?_
        rintro e w2 ⟨rfl, hb2⟩
        have BB2 := Lib.hid (Below.andThen BB.out hb2)
        clear hb2
        go_wp2_with fail
        go_roundw
        case rel => exact ⟨i + 1, by go_num, by omega, HM.out, BB2.out⟩
        case measure => simp [intOf]; omega
    · obtain rfl : i = 12 := by omega
      have HR := Lib.hid (HN.out (idx_none (fun j hj => HE.out j (by have := LN.out; omega) hj)))
      go_wp2_with fail
      go_ret2
      exact ⟨by rw [HR.out]; rfl, BB.out⟩
set_option maxRecDepth 100000 in
set_option maxHeartbeats 1000000 in
theorem rWeekdayOf (L : Int) (s : B) (w : World) : Calls Tryd.prog 22 #[.int .i64 L, .string (bs s)] w fun e w' => e = .returned (.tuple #[.int .i64 (nu (dO L) 0 s).1, .int .i64 (nu (dO L) 0 s).2]) ∧ Below w.heap.size w w' := by
  have CM := Lib.hid (fun n (hn : n ≤ 9223372036854775807) W => rWeekday L n W hn)
  have LN := Lib.hid (dO_len L)
  have HN := Lib.hid (fun (h : idx s (dO L) = none) => show nu (dO L) 0 s = (0, 110) from by unfold nu; rw [h])
  have HS := Lib.hid (fun i (h : idx s (dO L) = some i) => show nu (dO L) 0 s = ((i : Int) + 0, 0) from by unfold nu; rw [h])
  generalize nu (dO L) 0 s = R at *
  generalize dO L = l at *
  go_enter Tryd.func22, Tryd.ntmps22
  go_wp2_with fail
  go_loopw [6] (fun nv wr => ∃ i : Nat, nv = .int .i64 ((i : Int) ) ∧ i ≤ 7 ∧ (∀ j, j < i → j < l.length → l.getD j [] ≠ s) ∧ Below w.heap.size w wr) (fun nv _ => 7 + 1 - (intOf nv).toNat)
  case atStart => exact ⟨0, rfl, Nat.zero_le _, fun j hj => absurd hj (Nat.not_lt_zero _), Below.refl _ _⟩
  case round =>
    obtain ⟨i, rfl, hi, hne, hB⟩ := hrel
    have HE := Lib.hid hne
    have BB := Lib.hid hB
    clear hne hB
    by_cases hlt : i < 7
    · have CMi := Lib.hid (fun W => CM.out ((i : Int) ) (by omega) W)
      by_cases hil : i < l.length
      · rw [nm_in 0 _ (by omega) hil] at CMi
        obtain ⟨x, hx⟩ : ∃ x, l.getD i [] = x := ⟨_, rfl⟩
        rw [hx] at CMi
        by_cases hxs : x = s
        · have hb : ((bs x).toList == (bs s).toList) = true := by rw [beq_bs]; exact decide_eq_true hxs
          have HR := Lib.hid (HS.out i (idx_some hil (hx.trans hxs) (fun j hj => HE.out j hj (by omega))))
          clear hxs hx
          go_wp2_with fail
          with_reducible refine Calls.mono (CMi.out _) ?_
          rintro e w2 ⟨rfl, hb2⟩
          have BB2 := Lib.hid (Below.andThen BB.out hb2)
          clear hb2
          go_wp2_with fail
          go_ret2
          exact ⟨by rw [HR.out]; first | rfl | simp, BB2.out⟩
        · have hb : ((bs x).toList == (bs s).toList) = false := by rw [beq_bs]; exact decide_eq_false hxs
          have HM := Lib.hid (show ∀ j, j < i + 1 → j < l.length → l.getD j [] ≠ s from fun j hj hjl => by
            rcases Nat.lt_succ_iff_lt_or_eq.1 hj with h | rfl
            · exact HE.out j h hjl
            · rw [hx]; exact hxs)
          clear hxs hx
          go_wp2_with fail
          with_reducible refine Calls.mono (CMi.out _) ?_
          rintro e w2 ⟨rfl, hb2⟩
          have BB2 := Lib.hid (Below.andThen BB.out hb2)
          clear hb2
          go_wp2_with fail
          go_roundw
          case rel => exact ⟨i + 1, by go_num, by omega, HM.out, BB2.out⟩
          case measure => simp [intOf]; omega
      · rw [nm_out 0 _ (by omega) hil] at CMi
        have HM := Lib.hid (show ∀ j, j < i + 1 → j < l.length → l.getD j [] ≠ s from fun j hj hjl => HE.out j (by omega) hjl)
        go_wp2_with fail
        with_reducible refine Calls.mono (CMi.out _) ?_
        rintro e w2 ⟨rfl, hb2⟩
        have BB2 := Lib.hid (Below.andThen BB.out hb2)
        clear hb2
        go_wp2_with fail
        go_roundw
        case rel => exact ⟨i + 1, by go_num, by omega, HM.out, BB2.out⟩
        case measure => simp [intOf]; omega
    · obtain rfl : i = 7 := by omega
      have HR := Lib.hid (HN.out (idx_none (fun j hj => HE.out j (by have := LN.out; omega) hj)))
      go_wp2_with fail
      go_ret2
      exact ⟨by rw [HR.out]; rfl, BB.out⟩
end Wo
end Go.Proofs.YtebdpdmkehfgfaaDoor
