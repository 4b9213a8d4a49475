/- WordNames holds for every input: names of months and days are found back, are distinct, and are no number words; no other numbers have names. The tables are as the program's text lays them. -/
import Derived.Test.YtebdpdmkehfgfaaDoorWoZ
import Derived.Test.YtebdpdmkehfgfaaDoorWoFr
set_option linter.unusedVariables false
set_option linter.unusedSimpArgs false
namespace Go.Proofs.YtebdpdmkehfgfaaDoor
open Go.RowKit Go.ChangeShapes Go.WideShapes Go.ChangeAt
namespace Wo
theorem nm_at {l : List B} {i : Nat} {s : B} (f : Int) (h : l[i]? = some s) (n : Int) (hn : n = i + f) : nm l f n = (s, 0) := by
  have hi := (List.getElem?_eq_some_iff.1 h).1
  unfold nm
  rw [if_neg (by omega), show (n - f).toNat = i by omega, List.getD_eq_getElem?_getD, h]
  rfl
theorem nm_code {l : List B} {f n : Int} : (nm l f n).2 = if n < f ∨ (l.length : Int) ≤ n - f then 110 else 0 := by
  unfold nm
  split <;> rfl
theorem nu_at {l : List B} {i : Nat} {s : B} (f : Int) (h : idx s l = some i) : nu l f s = ((i : Int) + f, 0) := by
  unfold nu
  rw [h]
theorem idx_get {l : List B} {i : Nat} {s : B} (h : idx s l = some i) : l[i]? = some s := by
  obtain ⟨h1, h2, _⟩ := List.findIdx?_eq_some_iff_getElem.1 h
  rw [List.getElem?_eq_getElem h1]
  congr 1
  simpa using h2
theorem empty_no {s : B} (h : s ≠ []) : (bs s).toList.isEmpty = false := by
  rw [ByteArray.toList_eq, bs_list]
  cases s with
  | nil => exact absurd rfl h
  | cons a r => rfl
end Wo
open Wo in
set_option maxRecDepth 100000 in
set_option maxHeartbeats 4000000 in
theorem wordNames_law (x0 a0 b0 : Int) (s : ByteArray) (w : World) (T : Wo.Tab w) (hx : -9223372036854775808 ≤ x0 ∧ x0 ≤ 9223372036854775807) (ha : -9223372036854775808 ≤ a0 ∧ a0 ≤ 9223372036854775807) (hb0 : -9223372036854775808 ≤ b0 ∧ b0 ≤ 9223372036854775807) (hs : s.size ≤ maxLen) :
    Calls Tryd.prog 8 #[.int .i64 x0, .int .i64 a0, .int .i64 b0, .string s] w fun e w' => e = .returned (.bool true) ∧ Below w.heap.size w w' := by
  obtain ⟨k, hk, PK⟩ := pick_k x0 3 3 rfl (by decide) hx
  have HPK := Lib.hid PK
  have HT0 := Lib.hid T
  have HT := Lib.hid T
  have BB := Lib.hid (Below.refl w.heap.size w)
  have CM := Lib.hid (fun (n : Int) (hn : n ≤ 9223372036854775807) L (hL : L = 1 + (k : Int)) W T => (show Calls Tryd.prog 14 #[.int .i64 L, .int .i64 n] W fun e w' => e = .returned (.tuple #[sV (nm (months k) 1 n).1, .int .i64 (nm (months k) 1 n).2]) ∧ Below W.heap.size W w' from by
    have h := Month_any L n W T hn
    rw [mO_k hk hL] at h
    exact h))
  have CD := Lib.hid (fun (n : Int) (hn : n ≤ 9223372036854775807) L (hL : L = 1 + (k : Int)) W T => (show Calls Tryd.prog 16 #[.int .i64 L, .int .i64 n] W fun e w' => e = .returned (.tuple #[sV (nm (days k) 0 n).1, .int .i64 (nm (days k) 0 n).2]) ∧ Below W.heap.size W w' from by
    have h := Weekday_any L n W T hn
    rw [dO_k hk hL] at h
    exact h))
  have CMO := Lib.hid (fun (s : B) L (hL : L = 1 + (k : Int)) W T => (show Calls Tryd.prog 19 #[.int .i64 L, .string (bs s)] W fun e w' => e = .returned (.tuple #[.int .i64 (nu (months k) 1 s).1, .int .i64 (nu (months k) 1 s).2]) ∧ Below W.heap.size W w' from by
    have h := MonthOf_any L s W T
    rw [mO_k hk hL] at h
    exact h))
  have CDO := Lib.hid (fun (s : B) L (hL : L = 1 + (k : Int)) W T => (show Calls Tryd.prog 21 #[.int .i64 L, .string (bs s)] W fun e w' => e = .returned (.tuple #[.int .i64 (nu (days k) 0 s).1, .int .i64 (nu (days k) 0 s).2]) ∧ Below W.heap.size W w' from by
    have h := WeekdayOf_any L s W T
    rw [dO_k hk hL] at h
    exact h))
  have CI := Lib.hid (fun (s : B) (hs : s.length ≤ 100) L (hL : L = 1 + (k : Int)) W T => Is_k k L hk hL s (by omega) W T)
  have MO := Lib.hid (fun i (hi : i < 12) => months_ok (k := k) hk hi)
  have DO := Lib.hid (fun i (hi : i < 7) => days_ok (k := k) hk hi)
  have ML := Lib.hid (months_len hk)
  have DL := Lib.hid (days_len hk)
  have MS := Lib.hid (show ∀ s ∈ months k, s.length ≤ 100 from by rcases (show k = 0 ∨ k = 1 ∨ k = 2 by omega) with rfl | rfl | rfl <;> decide)
  have DS := Lib.hid (show ∀ s ∈ days k, s.length ≤ 100 from by rcases (show k = 0 ∨ k = 1 ∨ k = 2 by omega) with rfl | rfl | rfl <;> decide)
  generalize months k = M at *
  generalize days k = D at *
  have CMa := Lib.hid (fun L hL W T => CM.out a0 ha.2 L hL W T)
  have CDb := Lib.hid (fun L hL W T => CD.out b0 hb0.2 L hL W T)
  have EA := Lib.hid (show (nm M 1 a0).2 = if a0 < 1 ∨ (12 : Int) ≤ a0 - 1 then 110 else 0 from by rw [nm_code, ML.out]; rfl)
  have EB := Lib.hid (show (nm D 0 b0).2 = if b0 < 0 ∨ (7 : Int) ≤ b0 - 0 then 110 else 0 from by rw [nm_code, DL.out]; rfl)
  generalize (nm M 1 a0).2 = ea at *
  generalize (nm D 0 b0).2 = eb at *
  generalize (nm M 1 a0).1 = sa at *
  generalize (nm D 0 b0).1 = sb at *
  clear T PK hx
  go_enter Tryd.func8, Tryd.ntmps8
  go_wp2_with fail
  with_reducible refine Calls.mono (sane_any _ HT.out) ?_
  rintro e w1 ⟨rfl, hb⟩
  replace HT := Lib.hid (HT.out.next hb)
  replace BB := Lib.hid (Below.andThen BB.out hb)
  clear hb
  go_wp2_with fail
  with_reducible refine Calls.mono (HPK.out _) ?_
  rintro e w' ⟨rfl, rfl⟩
  go_wp2_with fail
  go_loopw [11] (fun nv wr => ∃ i : Nat, nv = .int .i64 (i + 1) ∧ i ≤ 12 ∧ Below w.heap.size w wr) (fun nv _ => 13 - (intOf nv).toNat)
  case atStart => exact ⟨0, rfl, by decide, BB.out⟩
  case round =>
    clear BB HT
    obtain ⟨i, rfl, hi, hB⟩ := hrel
    have BB := Lib.hid hB
    have HT := Lib.hid (HT0.out.next hB)
    clear hB
    by_cases hlt : i < 12
    · obtain ⟨t, h1, h2, h3, h4⟩ := MO.out i hlt
      have CMi := Lib.hid (fun L hL W T => CM.out ((i : Int) + 1) (by omega) L hL W T)
      rw [nm_at 1 h1 _ rfl] at CMi
      have COi := Lib.hid (fun L hL W T => CMO.out t L hL W T)
      rw [nu_at 1 h2] at COi
      have CIi := Lib.hid (fun L hL W T => CI.out t (MS.out t (List.mem_of_getElem? h1)) L hL W T)
      rw [h3] at CIi
      have em := empty_no h4
      clear h1 h2 h3 h4
      go_wp2_with fail
      with_reducible refine Calls.mono (CMi.out _ (by rfl) _ HT.out) ?_
      rintro e w2 ⟨rfl, hb⟩
      replace HT := Lib.hid (HT.out.next hb)
      replace BB := Lib.hid (Below.andThen BB.out hb)
      clear hb
      go_wp2_with fail
      with_reducible refine Calls.mono (COi.out _ (by rfl) _ HT.out) ?_
      rintro e w3 ⟨rfl, hb⟩
      replace HT := Lib.hid (HT.out.next hb)
      replace BB := Lib.hid (Below.andThen BB.out hb)
      clear hb
      go_wp2_with fail
      with_reducible refine Calls.mono (CIi.out _ (by rfl) _ HT.out) ?_
      rintro e w4 ⟨rfl, hb⟩
      replace HT := Lib.hid (HT.out.next hb)
      replace BB := Lib.hid (Below.andThen BB.out hb)
      clear hb
      go_wp2_with fail
      go_roundw
      case rel => exact ⟨i + 1, by go_num, by omega, BB.out⟩
      case measure => simp [intOf]; omega
    · obtain rfl : i = 12 := by omega
      rw [show (((12 : Nat) : Int) + 1) = 13 from rfl]
      go_wp2_with fail
      go_loopw [17] (fun nv wx => ∃ j : Nat, nv = .int .i64 j ∧ j ≤ 7 ∧ Below w.heap.size w wx) (fun nv _ => 7 - (intOf nv).toNat)
      case atStart => exact ⟨0, rfl, by decide, BB.out⟩
      case round =>
        clear BB HT
        obtain ⟨j, rfl, hj, hB⟩ := hrel
        have BB := Lib.hid hB
        have HT := Lib.hid (HT0.out.next hB)
        clear hB
        by_cases hlt : j < 7
        · obtain ⟨t, h1, h2, h3, h4⟩ := DO.out j hlt
          have CMi := Lib.hid (fun L hL W T => CD.out (j : Int) (by omega) L hL W T)
          rw [nm_at 0 h1 _ (by omega)] at CMi
          have COi := Lib.hid (fun L hL W T => CDO.out t L hL W T)
          rw [nu_at 0 h2, show (j : Int) + 0 = j by omega] at COi
          have CIi := Lib.hid (fun L hL W T => CI.out t (DS.out t (List.mem_of_getElem? h1)) L hL W T)
          rw [h3] at CIi
          have em := empty_no h4
          clear h1 h2 h3 h4
          go_wp2_with fail
          with_reducible refine Calls.mono (CMi.out _ (by rfl) _ HT.out) ?_
          rintro e w2 ⟨rfl, hb⟩
          replace HT := Lib.hid (HT.out.next hb)
          replace BB := Lib.hid (Below.andThen BB.out hb)
          clear hb
          go_wp2_with fail
          with_reducible refine Calls.mono (COi.out _ (by rfl) _ HT.out) ?_
          rintro e w3 ⟨rfl, hb⟩
          replace HT := Lib.hid (HT.out.next hb)
          replace BB := Lib.hid (Below.andThen BB.out hb)
          clear hb
          go_wp2_with fail
          with_reducible refine Calls.mono (CIi.out _ (by rfl) _ HT.out) ?_
          rintro e w4 ⟨rfl, hb⟩
          replace HT := Lib.hid (HT.out.next hb)
          replace BB := Lib.hid (Below.andThen BB.out hb)
          clear hb
          go_wp2_with fail
          go_roundw
          case rel => exact ⟨j + 1, by go_num, by omega, BB.out⟩
          case measure => simp [intOf]; omega
        · obtain rfl : j = 7 := by omega
          have m1 : 0 ≤ min (s.size : Int) 60 := by omega
          have m2 : min (s.size : Int) 60 ≤ (s.size : Int) := by omega
          have hx60 := cut_bs s
          obtain ⟨x, hxx⟩ : ∃ x, cutB s = x := ⟨_, rfl⟩
          rw [hxx] at hx60
          clear hxx
          have COx := Lib.hid (fun L hL W T => CMO.out x L hL W T)
          cases hix : idx x M with
          | some i =>
            have hi12 : i < 12 := by
              have := (List.findIdx?_eq_some_iff_getElem.1 hix).1
              rw [ML.out] at this
              exact this
            rw [nu_at 1 hix] at COx
            have CMn := Lib.hid (fun L hL W T => CM.out ((i : Int) + 1) (by omega) L hL W T)
            rw [nm_at 1 (idx_get hix) _ rfl] at CMn
            clear hix
            go_wp2_with fail
            with_reducible refine Calls.mono (CMa.out _ (by rfl) _ HT.out) ?_
            rintro e w2 ⟨rfl, hb⟩
            replace HT := Lib.hid (HT.out.next hb)
            replace BB := Lib.hid (Below.andThen BB.out hb)
            clear hb
            go_wp2_with fail
            with_reducible refine Calls.mono (CDb.out _ (by rfl) _ HT.out) ?_
            rintro e w3 ⟨rfl, hb⟩
            replace HT := Lib.hid (HT.out.next hb)
            replace BB := Lib.hid (Below.andThen BB.out hb)
            clear hb
            go_wp2_with fail
            with_reducible refine Calls.mono (COx.out _ (by rfl) _ HT.out) ?_
            rintro e w4 ⟨rfl, hb⟩
            replace HT := Lib.hid (HT.out.next hb)
            replace BB := Lib.hid (Below.andThen BB.out hb)
            clear hb
            go_wp2_with fail
            with_reducible refine Calls.mono (CMn.out _ (by rfl) _ HT.out) ?_
            rintro e w5 ⟨rfl, hb⟩
            replace HT := Lib.hid (HT.out.next hb)
            replace BB := Lib.hid (Below.andThen BB.out hb)
            clear hb
            go_upto_region 25 with (fail)
            go_cut [158] (fun v wx => v = .bool false ∧ w5 = wx)
            case first =>
              have hea := EA.out
              have heb := EB.out
              clear hx60 m1 m2
              by_cases a1 : a0 < 1
              · rw [if_pos (.inl a1)] at hea
                have a1' : ¬ (1 : Int) ≤ a0 := by omega
                subst hea
                by_cases b1 : b0 < 0
                · rw [if_pos (.inl b1)] at heb
                  have b1' : ¬ (0 : Int) ≤ b0 := by omega
                  subst heb
                  go_wp2_with fail
                  go_meet
                  exact ⟨rfl, rfl⟩
                · have b1' : (0 : Int) ≤ b0 := by omega
                  by_cases b2 : 6 < b0
                  · rw [if_pos (.inr (by omega))] at heb
                    have b2' : ¬ b0 ≤ 6 := by omega
                    subst heb
                    go_wp2_with fail
                    go_meet
                    exact ⟨rfl, rfl⟩
                  · rw [if_neg (by omega)] at heb
                    have b2' : b0 ≤ 6 := by omega
                    subst heb
                    go_wp2_with fail
                    go_meet
                    exact ⟨rfl, rfl⟩
              · have a1' : (1 : Int) ≤ a0 := by omega
                by_cases a2 : 12 < a0
                · rw [if_pos (.inr (by omega))] at hea
                  have a2' : ¬ a0 ≤ 12 := by omega
                  subst hea
                  by_cases b1 : b0 < 0
                  · rw [if_pos (.inl b1)] at heb
                    have b1' : ¬ (0 : Int) ≤ b0 := by omega
                    subst heb
                    go_wp2_with fail
                    go_meet
                    exact ⟨rfl, rfl⟩
                  · have b1' : (0 : Int) ≤ b0 := by omega
                    by_cases b2 : 6 < b0
                    · rw [if_pos (.inr (by omega))] at heb
                      have b2' : ¬ b0 ≤ 6 := by omega
                      subst heb
                      go_wp2_with fail
                      go_meet
                      exact ⟨rfl, rfl⟩
                    · rw [if_neg (by omega)] at heb
                      have b2' : b0 ≤ 6 := by omega
                      subst heb
                      go_wp2_with fail
                      go_meet
                      exact ⟨rfl, rfl⟩
                · rw [if_neg (by omega)] at hea
                  have a2' : a0 ≤ 12 := by omega
                  subst hea
                  by_cases b1 : b0 < 0
                  · rw [if_pos (.inl b1)] at heb
                    have b1' : ¬ (0 : Int) ≤ b0 := by omega
                    subst heb
                    go_wp2_with fail
                    go_meet
                    exact ⟨rfl, rfl⟩
                  · have b1' : (0 : Int) ≤ b0 := by omega
                    by_cases b2 : 6 < b0
                    · rw [if_pos (.inr (by omega))] at heb
                      have b2' : ¬ b0 ≤ 6 := by omega
                      subst heb
                      go_wp2_with fail
                      go_meet
                      exact ⟨rfl, rfl⟩
                    · rw [if_neg (by omega)] at heb
                      have b2' : b0 ≤ 6 := by omega
                      subst heb
                      go_wp2_with fail
                      go_meet
                      exact ⟨rfl, rfl⟩
            obtain ⟨rfl, rfl⟩ := hcut
            go_wp2_with fail
            go_ret
            exact ⟨rfl, BB.out⟩
          | none =>
            rw [show nu M 1 x = (0, 110) from by unfold nu; rw [hix]] at COx
            have CMn := Lib.hid (fun L hL W T => CM.out 0 (by decide) L hL W T)
            rw [show nm M 1 0 = ([], 110) from if_pos (.inl (by decide))] at CMn
            clear hix
            go_wp2_with fail
            with_reducible refine Calls.mono (CMa.out _ (by rfl) _ HT.out) ?_
            rintro e w2 ⟨rfl, hb⟩
            replace HT := Lib.hid (HT.out.next hb)
            replace BB := Lib.hid (Below.andThen BB.out hb)
            clear hb
            go_wp2_with fail
            with_reducible refine Calls.mono (CDb.out _ (by rfl) _ HT.out) ?_
            rintro e w3 ⟨rfl, hb⟩
            replace HT := Lib.hid (HT.out.next hb)
            replace BB := Lib.hid (Below.andThen BB.out hb)
            clear hb
            go_wp2_with fail
            with_reducible refine Calls.mono (COx.out _ (by rfl) _ HT.out) ?_
            rintro e w4 ⟨rfl, hb⟩
            replace HT := Lib.hid (HT.out.next hb)
            replace BB := Lib.hid (Below.andThen BB.out hb)
            clear hb
            go_wp2_with fail
            with_reducible refine Calls.mono (CMn.out _ (by rfl) _ HT.out) ?_
            rintro e w5 ⟨rfl, hb⟩
            replace HT := Lib.hid (HT.out.next hb)
            replace BB := Lib.hid (Below.andThen BB.out hb)
            clear hb
            go_upto_region 25 with (fail)
            go_cut [158] (fun v wx => v = .bool false ∧ w5 = wx)
            case first =>
              have hea := EA.out
              have heb := EB.out
              clear hx60 m1 m2
              by_cases a1 : a0 < 1
              · rw [if_pos (.inl a1)] at hea
                have a1' : ¬ (1 : Int) ≤ a0 := by omega
                subst hea
                by_cases b1 : b0 < 0
                · rw [if_pos (.inl b1)] at heb
                  have b1' : ¬ (0 : Int) ≤ b0 := by omega
                  subst heb
                  go_wp2_with fail
                  go_meet
                  exact ⟨rfl, rfl⟩
                · have b1' : (0 : Int) ≤ b0 := by omega
                  by_cases b2 : 6 < b0
                  · rw [if_pos (.inr (by omega))] at heb
                    have b2' : ¬ b0 ≤ 6 := by omega
                    subst heb
                    go_wp2_with fail
                    go_meet
                    exact ⟨rfl, rfl⟩
                  · rw [if_neg (by omega)] at heb
                    have b2' : b0 ≤ 6 := by omega
                    subst heb
                    go_wp2_with fail
                    go_meet
                    exact ⟨rfl, rfl⟩
              · have a1' : (1 : Int) ≤ a0 := by omega
                by_cases a2 : 12 < a0
                · rw [if_pos (.inr (by omega))] at hea
                  have a2' : ¬ a0 ≤ 12 := by omega
                  subst hea
                  by_cases b1 : b0 < 0
                  · rw [if_pos (.inl b1)] at heb
                    have b1' : ¬ (0 : Int) ≤ b0 := by omega
                    subst heb
                    go_wp2_with fail
                    go_meet
                    exact ⟨rfl, rfl⟩
                  · have b1' : (0 : Int) ≤ b0 := by omega
                    by_cases b2 : 6 < b0
                    · rw [if_pos (.inr (by omega))] at heb
                      have b2' : ¬ b0 ≤ 6 := by omega
                      subst heb
                      go_wp2_with fail
                      go_meet
                      exact ⟨rfl, rfl⟩
                    · rw [if_neg (by omega)] at heb
                      have b2' : b0 ≤ 6 := by omega
                      subst heb
                      go_wp2_with fail
                      go_meet
                      exact ⟨rfl, rfl⟩
                · rw [if_neg (by omega)] at hea
                  have a2' : a0 ≤ 12 := by omega
                  subst hea
                  by_cases b1 : b0 < 0
                  · rw [if_pos (.inl b1)] at heb
                    have b1' : ¬ (0 : Int) ≤ b0 := by omega
                    subst heb
                    go_wp2_with fail
                    go_meet
                    exact ⟨rfl, rfl⟩
                  · have b1' : (0 : Int) ≤ b0 := by omega
                    by_cases b2 : 6 < b0
                    · rw [if_pos (.inr (by omega))] at heb
                      have b2' : ¬ b0 ≤ 6 := by omega
                      subst heb
                      go_wp2_with fail
                      go_meet
                      exact ⟨rfl, rfl⟩
                    · rw [if_neg (by omega)] at heb
                      have b2' : b0 ≤ 6 := by omega
                      subst heb
                      go_wp2_with fail
                      go_meet
                      exact ⟨rfl, rfl⟩
            obtain ⟨rfl, rfl⟩ := hcut
            go_wp2_with fail
            go_ret
            exact ⟨rfl, BB.out⟩
namespace wordNames
set_option maxRecDepth 100000 in
theorem contract (H : Type) (enc : TypeId × Value → H) (W : World) (base : Nat) (args : Array Value) (ds gs : List (DataW H)) (before : List MemPlace)
    (hval : ∀ (j : Nat) t v, Tryd.f8.params[j]? = some t → args[j]? = some v → Value.okWide Tryd.prog W .any base t v)
    (hW : DataW.Whole enc Tryd.prog Tryd.f8.params.toList Rows.wordNamesSpec.vars false W args.toList ds gs before) (hL : laidMetH Tryd.prog Rows.wordNamesRow.laid W) (hsh : W.ShapedOpen Tryd.prog) :
    Calls Tryd.prog 8 args W fun e W' => ∃ v, e = .returned v ∧ Rows.wordNamesSpec.post enc Tryd.prog Tryd.f8 false true false false W args v W' := by
  have hW' := hW
  obtain ⟨p, q, hA0, hV, rfl, hfz, hnd⟩ := hW
  have hA : DataW.TrodAll enc Tryd.prog W 0 (fun _ => true) true Tryd.f8.params.toList args.toList ds p := hA0
  rw [Tryd.params8] at hA hval
  obtain ⟨v0, vs0, d0, ds0, p0, q0, hargs, rfl, rfl, h0, r0⟩ := trodAll_cons hA
  obtain ⟨v1, vs1, d1, ds1, p1, q1, rfl, rfl, rfl, h1, r1⟩ := trodAll_cons r0
  obtain ⟨v2, vs2, d2, ds2, p2, q2, rfl, rfl, rfl, h2, r2⟩ := trodAll_cons r1
  obtain ⟨v3, vs3, d3, ds3, p3, q3, rfl, rfl, rfl, h3, r3⟩ := trodAll_cons r2
  obtain ⟨rfl, rfl, rfl⟩ := trodAll_nil r3
  obtain rfl : args = #[v0, v1, v2, v3] := by cases args; simp_all
  obtain ⟨a0, rfl, rfl, rfl, k0⟩ := open_int Tryd.underlying3 (hval 0 _ _ rfl rfl) h0
  obtain ⟨a1, rfl, rfl, rfl, k1⟩ := open_int Tryd.underlying3 (hval 1 _ _ rfl rfl) h1
  obtain ⟨a2, rfl, rfl, rfl, k2⟩ := open_int Tryd.underlying3 (hval 2 _ _ rfl rfl) h2
  obtain ⟨a3, rfl, rfl, rfl, k3⟩ := Go.ChangeMaps.open_string Tryd.underlying9 (hval 3 _ _ rfl rfl) h3
  refine (wordNames_law a0 a1 a2 a3 W (wordT hL hsh) (bd_i64 k0) (bd_i64 k1) (bd_i64 k2) k3).mono fun e W' ⟨he, hb⟩ => ?_
  subst he
  obtain ⟨rfl, _⟩ := trodVars_none hV
  exact ⟨_, rfl, law_post laidOut (by kernel_rfl) rfl (by kernel_rfl) Tryd.underlying4 hW' rfl hb⟩

noncomputable def laidWorld (os : Os) : World := World.laidAll Tryd.prog os Rows.wordNamesRow.laid
def args0 : Array Value := #[.int .i64 0, .int .i64 0, .int .i64 0, .string ⟨#[]⟩]
theorem laid_met (os : Os) : laidMet Tryd.prog Rows.wordNamesRow.laid ((laidWorld os).forCall (fun _ _ => 0) ⟨#[], args0, []⟩).memory :=
  laidMet_laidAll _ (by kernel_rfl) (by kernel_rfl)
theorem reads (os : Os) {H : Type} (enc : TypeId × Value → H) : ∃ places, DataW.whole enc Tryd.prog ((laidWorld os).forCall (fun _ _ => 0) ⟨#[], args0, []⟩).memory Tryd.f8.params.toList Rows.wordNamesSpec.vars false args0.toList 8 = some ([.lit (.int .i64 0), .lit (.int .i64 0), .lit (.int .i64 0), .lit (.string [])], [], places) :=
  ⟨[], by kernel_rfl⟩

set_option maxRecDepth 100000 in
theorem lifted (os : Os) (started : os.Started) (H : Type) (enc : TypeId × Value → H) (F : Stop.Interp) :
    ReturnsInHanded {} Tryd.checked os 8 .any ((OpenSpec.ofChange Rows.wordNamesSpec).preRow enc Tryd.prog Tryd.f8 Rows.wordNamesRow.domain false Rows.wordNamesRow.laid) (((OpenSpec.ofChange Rows.wordNamesSpec).at F).post enc Tryd.prog Tryd.f8 false true false false) := by
  obtain ⟨places, hx⟩ := reads os enc
  refine returnsInHanded_of_row (C := Tryd.checked) (s := OpenSpec.ofChange Rows.wordNamesSpec) own started (by kernel_rfl) Tryd.func8
    (witness_row_at (enc := enc) (C := Tryd.checked) false (laidWorld os) args0 (World.laidAll_os _ _ _) (by kernel_rfl) (by kernel_rfl) (by kernel_rfl)
      (OpenSpec.preRow_of_cond 8 hx (by kernel_rfl) (fun k hk => by cases hk) (by kernel_rfl) (laid_met os))) ?_
  intro W base args ds gs before hval hW _ _ _ hL hsh _
  exact contract H enc W base args ds gs before hval hW hL hsh

theorem said : Rows.WordNamesSaid :=
  OpenClaim.holds_of_cond 8 Tryd.f8 rfl rfl rfl rfl rfl rfl rfl ⟨rfl, rfl, rfl, rfl, rfl⟩ rfl rfl rfl rfl rfl (by kernel_rfl) Tryd.func8 (by kernel_rfl)
    (of_decide_eq_true (by kernel_rfl)) (by unfold Func.isWrapper; first | (rw [if_pos (by decide +kernel)]; kernel_rfl) | (rw [if_neg (by decide +kernel)]; exact ⟨rfl, rfl⟩))
    (fun os started H enc _ F => by rw [OpenClaim.pre_eq_preRow]; exact lifted os started H enc F)

theorem plain (f : FuncId) (fn : Func) (hf : Tryd.pinned.checked.prog.funcNamed "newswire/newswirelaw11.WordNames" = some f) (hfn : Tryd.pinned.checked.prog.funcs[f]? = some fn) :
    false = Tryd.pinned.checked.prog.looks [] ∧ ∀ (j : Nat) t, fn.params[j]? = some t → Tryd.pinned.checked.prog.wantsStandIn t = false := by
  obtain rfl : f = 8 := Option.some.inj ((show Tryd.prog.funcNamed "newswire/newswirelaw11.WordNames" = some 8 by kernel_rfl).symm.trans hf) |>.symm
  obtain rfl : fn = Tryd.f8 := (Option.some.inj (Tryd.func8.symm.trans hfn)).symm
  refine ⟨by kernel_rfl, fun j t ht => ?_⟩
  have all : (Tryd.f8.params.toList.all fun t => Tryd.prog.wantsStandIn t == false) = true := by kernel_rfl
  have := List.all_eq_true.1 all t (by rw [← Array.mem_def]; exact Array.mem_of_getElem? ht)
  exact (show Tryd.prog.wantsStandIn t = false by simpa using this)

/-- The statement. -/
theorem card : Rows.WordNamesCardSaid :=
  Claim7.holds_tied_plain_at .later [] _ _ _ _ said (fun _ h => by cases h) (by kernel_rfl) (fun _ h => by cases h) wordNames_row_tie rfl ⟨rfl, rfl⟩ (by kernel_rfl) rfl plain (by kernel_rfl)
end wordNames
end Go.Proofs.YtebdpdmkehfgfaaDoor
