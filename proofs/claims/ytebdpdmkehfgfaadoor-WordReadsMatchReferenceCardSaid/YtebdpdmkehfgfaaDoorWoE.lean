/- German words read: a single word, a word less than 1000. -/
import Derived.Test.YtebdpdmkehfgfaaDoorWoD
set_option linter.unusedVariables false
set_option linter.unusedSimpArgs false
namespace Go.Proofs.YtebdpdmkehfgfaaDoor
open Go.RowKit
namespace Wo
theorem simple_le {k : Nat} (hk : k < 3) (s : B) : -1 ≤ simple k s ∧ simple k s ≤ 90 := by
  have l1 := ones_len hk
  have l2 := tens_len hk
  unfold simple
  cases h1 : idx s (ones k) with
  | some i =>
    have := (List.findIdx?_eq_some_iff_getElem.1 h1).1
    dsimp only
    omega
  | none =>
    cases h2 : idx s (tens k) with
    | some i =>
      have := (List.findIdx?_eq_some_iff_getElem.1 h2).1
      dsimp only
      omega
    | none => decide
theorem deOne_le (s : B) : -1 ≤ deOne s ∧ deOne s ≤ 90 := by
  unfold deOne
  split
  · decide
  · exact simple_le (by decide) s
theorem esOne_le (s : B) : -1 ≤ esOne s ∧ esOne s ≤ 90 := by
  unfold esOne
  split
  · decide
  · exact simple_le (by decide) s
theorem tao_le (t o : Int) (ht : t ≤ 90) : -1 ≤ tao t o ∧ tao t o ≤ 99 := by
  unfold tao
  split
  · decide
  · omega
theorem germanOne_any (s : B) (w : World) (T : Tab w) : Calls Tryd.prog 79 #[.string (bs s)] w fun e w' => e = .returned (.int .i64 (deOne s)) ∧ w = w' := by
  have CS := Lib.hid (simple_any 1 2 (by decide) rfl s w T)
  unfold deOne
  by_cases h : s = ein
  · rw [if_pos h]
    have hb : ((bs s).toList == ein) = true := (beq_lit s ein).trans (decide_eq_true h)
    unfold ein at hb
    clear h T
    go_enter Tryd.func79, Tryd.ntmps79
    go_wp2_with fail
    go_ret
    exact ⟨rfl, rfl⟩
  · rw [if_neg h]
    have hb : ((bs s).toList == ein) = false := (beq_lit s ein).trans (decide_eq_false h)
    unfold ein at hb
    clear h T
    go_enter Tryd.func79, Tryd.ntmps79
    go_wp2_with fail
    with_reducible refine Calls.mono CS.out ?_
    rintro e w' ⟨rfl, rfl⟩
    go_wp2_with fail
    go_ret
    exact ⟨rfl, rfl⟩
theorem spanishOne_any (s : B) (w : World) (T : Tab w) : Calls Tryd.prog 80 #[.string (bs s)] w fun e w' => e = .returned (.int .i64 (esOne s)) ∧ w = w' := by
  have CS := Lib.hid (simple_any 2 3 (by decide) rfl s w T)
  unfold esOne
  by_cases h : s = un
  · rw [if_pos h]
    have hb : ((bs s).toList == un) = true := (beq_lit s un).trans (decide_eq_true h)
    unfold un at hb
    clear h T
    go_enter Tryd.func80, Tryd.ntmps80
    go_wp2_with fail
    go_ret
    exact ⟨rfl, rfl⟩
  · rw [if_neg h]
    have hb : ((bs s).toList == un) = false := (beq_lit s un).trans (decide_eq_false h)
    unfold un at hb
    clear h T
    go_enter Tryd.func80, Tryd.ntmps80
    go_wp2_with fail
    with_reducible refine Calls.mono CS.out ?_
    rintro e w' ⟨rfl, rfl⟩
    go_wp2_with fail
    go_ret
    exact ⟨rfl, rfl⟩
theorem cut_parts {sep : B} : ∀ {s x y : B}, cut sep s = some (x, y) → x.length + y.length ≤ s.length
  | [], x, y, h => by
    unfold cut at h
    split at h
    · cases h; exact Nat.le_refl _
    · cases h
  | c :: s, x, y, h => by
    unfold cut at h
    split at h
    · cases h
      simp only [List.length_nil, List.length_drop]
      omega
    · cases e : cut sep s with
      | none => rw [e] at h; cases h
      | some z =>
        obtain ⟨x', y'⟩ := z
        rw [e] at h
        cases h
        have := cut_parts e
        simp only [List.length_cons]
        omega
theorem cut_len {sep s x y : B} (h : cut sep s = some (x, y)) : y.length ≤ s.length := by
  have := cut_parts h
  omega
set_option maxRecDepth 100000 in
set_option maxHeartbeats 2000000 in
theorem germanSmall_any (o : Option Addr) (n c : Nat) (l : List B) (w : World) (T : Tab w) (hl : l.length = n) (hn : n ≤ 1000000) (hs : ∀ s ∈ l, s.length ≤ 1000000) (hS : SSl w o l) :
    Calls Tryd.prog 70 #[.slice o n c] w fun e w' => e = .returned (.int .i64 (deSmall l)) ∧ Below w.heap.size w w' := by
  by_cases h1 : n = 1
  · subst h1
    obtain ⟨s, rfl⟩ := List.length_eq_one_iff.1 hl
    obtain ⟨b, off, rfl, hb, hc⟩ := hS.cells (by simp)
    have c0 := hc 0 s rfl
    rw [Nat.add_zero] at c0
    have HZ := Lib.hid (hs s (by simp))
    have HT := Lib.hid T
    have BB := Lib.hid (Below.refl w.heap.size w)
    clear hc hs hS hl
    show Calls _ _ _ _ _
    have HD := Lib.hid (show deSmall [s] = match cut hundert s with
      | some (h, rest) => if rest = [] then 100 * deOne h else deTail (100 * deOne h) rest
      | none => deTail 0 s from rfl)
    generalize deSmall [s] = D at *
    cases hcut : cut hundert s with
    | some x =>
      obtain ⟨h, rest⟩ := x
      have CC := Lib.hid (Cut_some hcut (by decide) ⟨#[104, 117, 110, 100, 101, 114, 116]⟩ rfl w.drew (T.next ((Below.refl _ w).drew)) (by exact HZ.out))
      replace HT := Lib.hid (HT.out.next ((Below.refl _ w).drew))
      replace BB := Lib.hid BB.out.drew
      rw [hcut] at HD
      replace HZ := Lib.hid (Nat.le_trans (cut_len hcut) HZ.out)
      clear hcut T
      go_enter Tryd.func70, Tryd.ntmps70
      go_wp2_with fail
      go_region
      go_wp2_with fail
      with_reducible refine Calls.mono (CC.out) ?_
      rintro e w2 ⟨rfl, hb⟩
      replace HT := Lib.hid (HT.out.next hb)
      replace BB := Lib.hid (Below.andThen BB.out hb)
      clear hb
      go_wp2_with fail
      replace HD := Lib.hid (HD.out.trans (show _ = if rest = [] then 100 * deOne h else deTail (100 * deOne h) rest from rfl))
      have q0 := deOne_le h
      have CG := Lib.hid (germanOne_any h w2 HT.out)
      generalize deOne h = d at *
      by_cases hr : rest = []
      · have hbr : (bs rest).toList.isEmpty = true := by rw [ByteArray.toList_eq, bs_list, hr]; rfl
        replace HD := Lib.hid (HD.out.trans (if_pos hr))
        clear hr
        with_reducible refine Calls.mono CG.out ?_
        rintro e w' ⟨rfl, rfl⟩
        go_wp2_with fail
        go_ret
        exact ⟨retv (vint HD.out.symm), BB.out⟩
      · have hbr : (bs rest).toList.isEmpty = false := by rw [ByteArray.toList_eq, bs_list]; cases rest with
          | nil => exact absurd rfl hr
          | cons a r => rfl
        replace HD := Lib.hid (HD.out.trans (if_neg hr))
        clear hr
        with_reducible refine Calls.mono CG.out ?_
        rintro e w' ⟨rfl, rfl⟩
        go_wp2_with fail
        unfold deTail at HD
        with_reducible refine Calls.mono (simple_any 1 2 (by decide) rfl rest w2 HT.out) ?_
        rintro e w' ⟨rfl, rfl⟩
        go_wp2_with fail
        cases hu : cut und rest with
        | some z =>
          obtain ⟨x, y⟩ := z
          rw [hu] at HD
          replace HD := Lib.hid (HD.out.trans (show _ = orNone (100 * d) (tao (simple 1 y) (deOne x)) from rfl))
          have CU := Lib.hid (fun W T => Cut_some hu (by decide) ⟨#[117, 110, 100]⟩ rfl W T (by exact HZ.out))
          clear hu
          with_reducible refine Calls.mono (CU.out _ HT.out) ?_
          rintro e w3 ⟨rfl, hb⟩
          replace HT := Lib.hid (HT.out.next hb)
          replace BB := Lib.hid (Below.andThen BB.out hb)
          clear hb
          go_wp2_with fail
          with_reducible refine Calls.mono (simple_any 1 2 (by decide) rfl y w3 HT.out) ?_
          rintro e w' ⟨rfl, rfl⟩
          go_wp2_with fail
          with_reducible refine Calls.mono (germanOne_any x w3 HT.out) ?_
          rintro e w' ⟨rfl, rfl⟩
          go_wp2_with fail
          have q1 := simple_le (k := 1) (by decide) y
          have q2 := deOne_le x
          have q3 := tao_le (simple 1 y) (deOne x) q1.2
          with_reducible refine Calls.mono (tao_any _ _ w3 (by omega) (by omega)) ?_
          rintro e w' ⟨rfl, rfl⟩
          go_wp2_with fail
          generalize tao (simple 1 y) (deOne x) = m at *
          all_goals
            go_ret
            refine ⟨retv (vint ?_), BB.out⟩
            rw [HD.out]
            unfold orNone
            first | (rw [if_pos (by omega)]; done) | (rw [if_neg (by omega)]; done) | (rw [if_neg (by omega)]; omega)
        | none =>
          rw [hu] at HD
          replace HD := Lib.hid (HD.out.trans (show _ = orNone (100 * d) (simple 1 rest) from rfl))
          have CU := Lib.hid (fun W T => Cut_none hu (by decide) ⟨#[117, 110, 100]⟩ rfl W T (by exact HZ.out))
          have q1 := simple_le (k := 1) (by decide) rest
          generalize simple 1 rest = m at *
          clear hu
          with_reducible refine Calls.mono (CU.out _ HT.out) ?_
          rintro e w3 ⟨rfl, hb⟩
          replace HT := Lib.hid (HT.out.next hb)
          replace BB := Lib.hid (Below.andThen BB.out hb)
          clear hb
          go_wp2_with fail
          all_goals
            go_ret
            refine ⟨retv (vint ?_), BB.out⟩
            rw [HD.out]
            unfold orNone
            first | (rw [if_pos (by omega)]; done) | (rw [if_neg (by omega)]; done) | (rw [if_neg (by omega)]; omega)
    | none =>
      have CC := Lib.hid (Cut_none hcut (by decide) ⟨#[104, 117, 110, 100, 101, 114, 116]⟩ rfl w.drew (T.next ((Below.refl _ w).drew)) (by exact HZ.out))
      replace HT := Lib.hid (HT.out.next ((Below.refl _ w).drew))
      replace BB := Lib.hid BB.out.drew
      rw [hcut] at HD
      replace HD := Lib.hid (HD.out.trans (show _ = deTail 0 s from rfl))
      clear hcut T
      go_enter Tryd.func70, Tryd.ntmps70
      go_wp2_with fail
      go_region
      go_wp2_with fail
      with_reducible refine Calls.mono (CC.out) ?_
      rintro e w2 ⟨rfl, hb⟩
      replace HT := Lib.hid (HT.out.next hb)
      replace BB := Lib.hid (Below.andThen BB.out hb)
      clear hb
      go_wp2_with fail
      unfold deTail at HD
      with_reducible refine Calls.mono (simple_any 1 2 (by decide) rfl s w2 HT.out) ?_
      rintro e w' ⟨rfl, rfl⟩
      go_wp2_with fail
      cases hu : cut und s with
      | some z =>
        obtain ⟨x, y⟩ := z
        rw [hu] at HD
        replace HD := Lib.hid (HD.out.trans (show _ = orNone 0 (tao (simple 1 y) (deOne x)) from rfl))
        have CU := Lib.hid (fun W T => Cut_some hu (by decide) ⟨#[117, 110, 100]⟩ rfl W T (by exact HZ.out))
        clear hu
        with_reducible refine Calls.mono (CU.out _ HT.out) ?_
        rintro e w3 ⟨rfl, hb⟩
        replace HT := Lib.hid (HT.out.next hb)
        replace BB := Lib.hid (Below.andThen BB.out hb)
        clear hb
        go_wp2_with fail
        with_reducible refine Calls.mono (simple_any 1 2 (by decide) rfl y w3 HT.out) ?_
        rintro e w' ⟨rfl, rfl⟩
        go_wp2_with fail
        with_reducible refine Calls.mono (germanOne_any x w3 HT.out) ?_
        rintro e w' ⟨rfl, rfl⟩
        go_wp2_with fail
        have q1 := simple_le (k := 1) (by decide) y
        have q2 := deOne_le x
        have q3 := tao_le (simple 1 y) (deOne x) q1.2
        with_reducible refine Calls.mono (tao_any _ _ w3 (by omega) (by omega)) ?_
        rintro e w' ⟨rfl, rfl⟩
        go_wp2_with fail
        generalize tao (simple 1 y) (deOne x) = m at *
        all_goals
          go_ret
          refine ⟨retv (vint ?_), BB.out⟩
          rw [HD.out]
          unfold orNone
          first | (rw [if_pos (by omega)]; done) | (rw [if_neg (by omega)]; done) | (rw [if_neg (by omega)]; omega)
      | none =>
        rw [hu] at HD
        replace HD := Lib.hid (HD.out.trans (show _ = orNone 0 (simple 1 s) from rfl))
        have CU := Lib.hid (fun W T => Cut_none hu (by decide) ⟨#[117, 110, 100]⟩ rfl W T (by exact HZ.out))
        have q1 := simple_le (k := 1) (by decide) s
        generalize simple 1 s = m at *
        clear hu
        with_reducible refine Calls.mono (CU.out _ HT.out) ?_
        rintro e w3 ⟨rfl, hb⟩
        replace HT := Lib.hid (HT.out.next hb)
        replace BB := Lib.hid (Below.andThen BB.out hb)
        clear hb
        go_wp2_with fail
        all_goals
          go_ret
          refine ⟨retv (vint ?_), BB.out⟩
          rw [HD.out]
          unfold orNone
          first | (rw [if_pos (by omega)]; done) | (rw [if_neg (by omega)]; done) | (rw [if_neg (by omega)]; omega)
  · have e : deSmall l = -1 := by
      match l, hl with
      | [], _ => rfl
      | [_], h => exact absurd h.symm h1
      | _ :: _ :: _, _ => rfl
    rw [e]
    have h2 : ((n : Int) == 1) = false := by simp; omega
    clear T hs hS
    go_enter Tryd.func70, Tryd.ntmps70
    go_wp2_with fail
    go_ret
    exact ⟨rfl, Below.refl _ _⟩
end Wo
end Go.Proofs.YtebdpdmkehfgfaaDoor
