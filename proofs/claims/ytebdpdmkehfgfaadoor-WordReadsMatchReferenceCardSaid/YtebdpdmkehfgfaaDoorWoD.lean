/- German words less than 1000; single words to which more is joined. -/
import Derived.Test.YtebdpdmkehfgfaaDoorWoC
set_option linter.unusedVariables false
set_option linter.unusedSimpArgs false
namespace Go.Proofs.YtebdpdmkehfgfaaDoor
open Go.RowKit
namespace Wo
theorem trim_nil (s : B) : trim [] s = s := by
  unfold trim cutSuffix
  rw [if_pos (by simp)]
  simp
set_option maxRecDepth 100000 in
theorem word_small {k n : Nat} (hk : k < 3) (hn : n < 100) : (wordOf k n).length ≤ 20 := by
  have h := below (p := fun k => (List.range 100).all fun n => decide ((wordOf k n).length ≤ 20)) (N := 3) (by decide +kernel) hk
  exact of_decide_eq_true (below (N := 100) h hn)
set_option maxRecDepth 100000 in
theorem joined_small {n : Nat} (hn : n < 100) : (joined n).length ≤ 20 := of_decide_eq_true (below (p := fun n => decide ((joined n).length ≤ 20)) (N := 100) (by decide +kernel) hn)
set_option maxRecDepth 100000 in
theorem joined_any (n : Nat) (N : Int) (hN : N = n) (hn : n < 100) (w : World) (T : Tab w) : Calls Tryd.prog 75 #[.int .i64 N] w fun e w' => e = .returned (sV (joined n)) ∧ w = w' := by
  subst hN
  have W := Lib.hid (word_any 1 n 2 n (by decide) rfl rfl hn w T)
  have Z := Lib.hid (word_small (k := 1) (by decide) hn)
  unfold joined
  by_cases h : n = 1
  · rw [if_pos h]
    have WH := Lib.hid (when_any true ⟨#[115]⟩ w)
    have d : ((n : Int) == 1) = true := by rw [h]; rfl
    generalize wordOf 1 n = x at *
    have TR := Lib.hid (TrimSuffix_any x [115] ⟨#[115]⟩ rfl w (by have := Z.out; omega))
    clear h T
    go_enter Tryd.func75, Tryd.ntmps75
    go_wp2_with fail
    refine Calls.mono W.out ?_
    rintro e w' ⟨rfl, rfl⟩
    go_wp2_with fail
    refine Calls.mono WH.out ?_
    rintro e w' ⟨rfl, rfl⟩
    go_wp2_with fail
    refine Calls.mono TR.out ?_
    rintro e w' ⟨rfl, rfl⟩
    go_wp2_with fail
    go_ret
    exact ⟨rfl, rfl⟩
  · rw [if_neg h]
    have WH := Lib.hid (when_any false ⟨#[115]⟩ w)
    have d : ((n : Int) == 1) = false := by simp; omega
    generalize wordOf 1 n = x at *
    have TR := Lib.hid (TrimSuffix_any x [] ⟨#[]⟩ rfl w (by have := Z.out; omega))
    rw [trim_nil] at TR
    clear h T
    go_enter Tryd.func75, Tryd.ntmps75
    go_wp2_with fail
    refine Calls.mono W.out ?_
    rintro e w' ⟨rfl, rfl⟩
    go_wp2_with fail
    refine Calls.mono WH.out ?_
    rintro e w' ⟨rfl, rfl⟩
    go_wp2_with fail
    refine Calls.mono TR.out ?_
    rintro e w' ⟨rfl, rfl⟩
    go_wp2_with fail
    go_ret
    exact ⟨rfl, rfl⟩
set_option maxRecDepth 100000 in
set_option maxHeartbeats 4000000 in
theorem germanSmallWord_any (n : Nat) (N : Int) (hN : N = n) (hn : n < 1000) (w : World) (T : Tab w) : Calls Tryd.prog 66 #[.int .i64 N] w fun e w' => e = .returned (sV (deW n)) ∧ w = w' := by
  subst hN
  have CJ := Lib.hid (fun (m : Nat) (hm : m < 100) (M : Int) (hM : M = (m : Int)) => joined_any m M hM hm w T)
  have CW := Lib.hid (fun (m : Nat) (hm : m < 100) (M : Int) (hM : M = (m : Int)) => word_any 1 m 2 M (by decide) rfl hM hm w T)
  have zJ := Lib.hid (fun m (hm : m < 100) => show (bs (joined m)).size ≤ 20 by rw [bs_size]; exact joined_small hm)
  have zW := Lib.hid (fun m (hm : m < 100) => show (bs (wordOf 1 m)).size ≤ 20 by rw [bs_size]; exact word_small (by decide) hm)
  have HD := Lib.hid (show deW n = (if n / 100 > 0 then joined (n / 100) ++ hundert else []) ++ (if n / 100 > 0 ∧ n % 100 = 0 then [] else if n % 100 < 20 ∨ n % 10 = 0 then wordOf 1 (n % 100) else joined (n % 10) ++ und ++ wordOf 1 (n % 100 - n % 10)) from rfl)
  generalize deW n = D at *
  clear T
  obtain ⟨h, hh⟩ : ∃ h, n / 100 = h := ⟨_, rfl⟩
  obtain ⟨r, hr⟩ : ∃ r, n % 100 = r := ⟨_, rfl⟩
  have hr2 : n % 10 = r % 10 := by omega
  have hi1 : (n : Int) / 100 = h := by omega
  have hi2 : (n : Int) % 100 = r := by omega
  have h9 : h < 10 := by omega
  have r99 : r < 100 := by omega
  rw [hh, hr, hr2] at HD
  clear hh hr hr2 hn
  by_cases h0 : 0 < h
  · have z1 := zJ.out h (by omega)
    have C1 := Lib.hid (CJ.out h (by omega) h rfl)
    generalize joined h = x1 at *
    by_cases hz : r = 0
    · subst hz
      have HE := Lib.hid (show D = x1 ++ hundert by rw [HD.out, if_pos h0, if_pos ⟨h0, rfl⟩, List.append_nil])
      go_enter Tryd.func66, Tryd.ntmps66
      go_wp2_with fail
      with_reducible refine Calls.mono C1.out ?_
      rintro e w' ⟨rfl, rfl⟩
      go_wp2_with fail
      go_ret
      exact ⟨retv (congrArg Value.string (by rw [HE.out, ← bs_append]; rfl)), rfl⟩
    · have e0 : ((r : Int) == 0) = false := by simp; omega
      by_cases ha : r < 20 ∨ r % 10 = 0
      · have z2 := zW.out r r99
        have C2 := Lib.hid (CW.out r r99 r rfl)
        have HE := Lib.hid (show D = (x1 ++ hundert) ++ wordOf 1 r by rw [HD.out]; rw [if_pos h0, if_neg (fun h => hz h.2)]; rw [if_pos ha])
        generalize wordOf 1 r = x2 at *
        by_cases hb : r < 20
        · clear ha
          go_enter Tryd.func66, Tryd.ntmps66
          go_wp2_with fail
          with_reducible refine Calls.mono C1.out ?_
          rintro e w' ⟨rfl, rfl⟩
          go_wp2_with fail
          with_reducible refine Calls.mono C2.out ?_
          rintro e w' ⟨rfl, rfl⟩
          go_wp2_with fail
          go_ret
          exact ⟨retv (congrArg Value.string (by rw [HE.out, ← bs_append, ← bs_append]; rfl)), rfl⟩
        · have hc : (r : Int) % 10 = 0 := by omega
          have hc2 : (n : Int) % 10 = 0 := by omega
          clear ha
          go_enter Tryd.func66, Tryd.ntmps66
          go_wp2_with fail
          with_reducible refine Calls.mono C1.out ?_
          rintro e w' ⟨rfl, rfl⟩
          go_wp2_with fail
          with_reducible refine Calls.mono C2.out ?_
          rintro e w' ⟨rfl, rfl⟩
          go_wp2_with fail
          go_ret
          exact ⟨retv (congrArg Value.string (by rw [HE.out, ← bs_append, ← bs_append]; rfl)), rfl⟩
      · obtain ⟨d, hd⟩ : ∃ d, r % 10 = d := ⟨_, rfl⟩
        obtain ⟨t, ht⟩ : ∃ t, r - d = t := ⟨_, rfl⟩
        have z2 := zJ.out d (by omega)
        have C2 := Lib.hid (CJ.out d (by omega) d rfl)
        have z3 := zW.out t (by omega)
        have C3 := Lib.hid (CW.out t (by omega) t rfl)
        have HE := Lib.hid (show D = x1 ++ hundert ++ joined d ++ und ++ wordOf 1 t by rw [HD.out]; rw [if_pos h0, if_neg (fun h => hz h.2)]; rw [if_neg ha, hd, ht]; simp only [List.append_assoc])
        generalize wordOf 1 t = x3 at *
        generalize joined d = x2 at *
        have e1 : (r : Int) % 10 = d := by omega
        have e2 : (r : Int) - d = t := by omega
        have e3 : ((d : Int) == 0) = false := by simp; omega
        have e4 : ¬ (r : Int) < 20 := by omega
        clear ha hd ht
        go_enter Tryd.func66, Tryd.ntmps66
        go_wp2_with fail
        with_reducible refine Calls.mono C1.out ?_
        rintro e w' ⟨rfl, rfl⟩
        go_wp2_with fail
        with_reducible refine Calls.mono C2.out ?_
        rintro e w' ⟨rfl, rfl⟩
        go_wp2_with fail
        with_reducible refine Calls.mono C3.out ?_
        rintro e w' ⟨rfl, rfl⟩
        go_wp2_with fail
        go_ret
        exact ⟨retv (congrArg Value.string (by rw [HE.out, ← bs_append, ← bs_append, ← bs_append, ← bs_append]; rfl)), rfl⟩
  · obtain rfl : h = 0 := by omega
    obtain rfl : n = r := by omega
    have hi3 : (n : Int) / 100 = 0 := by omega
    clear hi1 hi2
    by_cases ha : n < 20 ∨ n % 10 = 0
    · have z2 := zW.out n r99
      have C2 := Lib.hid (CW.out n r99 n rfl)
      have HE := Lib.hid (show D = [] ++ wordOf 1 n by rw [HD.out]; rw [if_neg h0, if_neg (fun h => h0 h.1)]; rw [if_pos ha])
      generalize wordOf 1 n = x2 at *
      by_cases hb : n < 20
      · clear ha
        go_enter Tryd.func66, Tryd.ntmps66
        go_wp2_with fail
        with_reducible refine Calls.mono C2.out ?_
        rintro e w' ⟨rfl, rfl⟩
        go_wp2_with fail
        go_ret
        exact ⟨retv (congrArg Value.string (by rw [HE.out, ← bs_append]; rfl)), rfl⟩
      · have hc : (n : Int) % 10 = 0 := by omega
        skip
        clear ha
        go_enter Tryd.func66, Tryd.ntmps66
        go_wp2_with fail
        with_reducible refine Calls.mono C2.out ?_
        rintro e w' ⟨rfl, rfl⟩
        go_wp2_with fail
        go_ret
        exact ⟨retv (congrArg Value.string (by rw [HE.out, ← bs_append]; rfl)), rfl⟩
    · obtain ⟨d, hd⟩ : ∃ d, n % 10 = d := ⟨_, rfl⟩
      obtain ⟨t, ht⟩ : ∃ t, n - d = t := ⟨_, rfl⟩
      have z2 := zJ.out d (by omega)
      have C2 := Lib.hid (CJ.out d (by omega) d rfl)
      have z3 := zW.out t (by omega)
      have C3 := Lib.hid (CW.out t (by omega) t rfl)
      have HE := Lib.hid (show D = [] ++ joined d ++ und ++ wordOf 1 t by rw [HD.out]; rw [if_neg h0, if_neg (fun h => h0 h.1)]; rw [if_neg ha, hd, ht]; simp only [List.append_assoc])
      generalize wordOf 1 t = x3 at *
      generalize joined d = x2 at *
      have e1 : (n : Int) % 10 = d := by omega
      have e2 : (n : Int) - d = t := by omega
      have e3 : ((d : Int) == 0) = false := by simp; omega
      have e4 : ¬ (n : Int) < 20 := by omega
      clear ha hd ht
      go_enter Tryd.func66, Tryd.ntmps66
      go_wp2_with fail
      with_reducible refine Calls.mono C2.out ?_
      rintro e w' ⟨rfl, rfl⟩
      go_wp2_with fail
      with_reducible refine Calls.mono C3.out ?_
      rintro e w' ⟨rfl, rfl⟩
      go_wp2_with fail
      go_ret
      exact ⟨retv (congrArg Value.string (by rw [HE.out, ← bs_append, ← bs_append, ← bs_append]; rfl)), rfl⟩
end Wo
end Go.Proofs.YtebdpdmkehfgfaaDoor
