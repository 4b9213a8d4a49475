/- English words less than 1000, read. -/
import Derived.Test.YtebdpdmkehfgfaaDoorWoE
set_option linter.unusedVariables false
set_option linter.unusedSimpArgs false
namespace Go.Proofs.YtebdpdmkehfgfaaDoor
open Go.RowKit
namespace Wo
theorem enTail_ne (n : Int) {l : List B} (h : l.length ≠ 1) : enTail n l = -1 := by
  match l with
  | [] => rfl
  | [_] => exact absurd rfl h
  | _ :: _ :: _ => rfl
theorem simple_b (k : Nat) (L : Int) (hk : k < 3) (hL : L = k + 1) (s : B) (w : World) (T : Tab w) : Calls Tryd.prog 72 #[.int .i64 L, .string (bs s)] w fun e w' => e = .returned (.int .i64 (simple k s)) ∧ Below w.heap.size w w' :=
  (simple_any k L hk hL s w T).mono fun e w' h => ⟨h.1, by rw [h.2]; exact Below.refl _ _⟩
set_option maxRecDepth 100000 in
set_option maxHeartbeats 2000000 in
theorem englishSmall_any (o : Option Addr) (n c : Nat) (l : List B) (w : World) (T : Tab w) (hl : l.length = n) (hn : n ≤ 1000000) (hnc : n ≤ c) (hc2 : c ≤ 9223372036854775807) (hs : ∀ s ∈ l, s.length ≤ 1000000) (hS : SSl w o l) :
    Calls Tryd.prog 65 #[.slice o n c] w fun e w' => e = .returned (.int .i64 (enSmall l)) ∧ Below w.heap.size w w' := by
  have HT := Lib.hid T
  have BB := Lib.hid (Below.refl w.heap.size w)
  have HL := Lib.hid hl
  have HZS := Lib.hid hs
  clear T hl hs
  by_cases hh : ∃ a rest, l = a :: hundred :: rest
  · obtain ⟨a, rest, rfl⟩ := hh
    obtain ⟨b, off, rfl, hb, hc⟩ := hS.cells (by simp)
    have hn2 : n = rest.length + 2 := by rw [← HL.out]; simp
    have HS := Lib.hid (SSl.drop 2 (show SSl w (some ⟨b, off, none⟩) _ from .inr ⟨b, off, rfl, hb, hc⟩))
    have c0 := hc 0 a rfl
    have c1 := hc 1 hundred rfl
    rw [Nat.add_zero] at c0
    have hb1 : ((bs hundred).toList == ([104, 117, 110, 100, 114, 101, 100] : List UInt8)) = true := (beq_lit hundred hundred).trans (decide_eq_true rfl)
    have q0 := simple_le (k := 0) (by decide) a
    have CS := Lib.hid (fun W T => simple_b 0 1 (by decide) rfl a W T)
    have HD := Lib.hid (show enSmall (a :: hundred :: rest) = if rest = [] then 100 * simple 0 a else enTail (100 * simple 0 a) rest from (if_pos rfl : (if hundred = hundred then (if rest = [] then 100 * simple 0 a else enTail (100 * simple 0 a) rest) else enTail 0 (a :: hundred :: rest)) = _))
    generalize enSmall (a :: hundred :: rest) = D at *
    generalize simple 0 a = d at *
    clear hc hS
    cases rest with
    | nil =>
      replace HD := Lib.hid (HD.out.trans (if_pos rfl))
      subst hn2
      by_cases hcc : c = 2
      · subst hcc
        go_enter Tryd.func65, Tryd.ntmps65
        go_wp2_with fail
        refine wp_region_kin (by kernel_rfl) (by kernel_rfl) w.heap.size 0 (by simp) (fun hk => ?_)
        repeat (go_big_quiet_step ((go_at_call 72; first | with_reducible exact Calls.kin (CS.out _ (HT.out.next (Kin.below _))))))
        refine wpQuiet_nil ?_
        clear hk
        intro w2 hb
        replace HT := Lib.hid (HT.out.next hb)
        replace HS := Lib.hid (HS.out.next hb)
        replace BB := Lib.hid (Below.andThen BB.out hb)
        clear hb
        go_wp2_with fail
        go_ret
        exact ⟨retv (vint HD.out.symm), BB.out⟩
      · have hcc2 : ¬ (c : Int) = 2 := by omega
        go_enter Tryd.func65, Tryd.ntmps65
        go_wp2_with fail
        refine wp_region_kin (by kernel_rfl) (by kernel_rfl) w.heap.size 0 (by simp) (fun hk => ?_)
        repeat (go_big_quiet_step ((go_at_call 72; first | with_reducible exact Calls.kin (CS.out _ (HT.out.next (Kin.below _))))))
        refine wpQuiet_nil ?_
        clear hk
        intro w2 hb
        replace HT := Lib.hid (HT.out.next hb)
        replace HS := Lib.hid (HS.out.next hb)
        replace BB := Lib.hid (Below.andThen BB.out hb)
        clear hb
        go_wp2_with fail
        go_ret
        exact ⟨retv (vint HD.out.symm), BB.out⟩
    | cons s rest2 =>
      replace HD := Lib.hid (HD.out.trans (if_neg (by simp)))
      have hcc : ¬ c = 2 := by rw [List.length_cons] at hn2; omega
      have hcc2 : ¬ (c : Int) = 2 := by omega
      by_cases h1 : rest2 = []
      · subst h1
        have hn3 : n = 3 := hn2
        subst hn3
        have HZ := Lib.hid (HZS.out s (by simp))
        clear HZS HL hn2
        go_enter Tryd.func65, Tryd.ntmps65
        go_wp2_with fail
        refine wp_region_kin (by kernel_rfl) (by kernel_rfl) w.heap.size 0 (by simp) (fun hk => ?_)
        repeat (go_big_quiet_step ((go_at_call 72; first | with_reducible exact Calls.kin (CS.out _ (HT.out.next (Kin.below _))))))
        refine wpQuiet_nil ?_
        clear hk
        intro w2 hb
        replace HT := Lib.hid (HT.out.next hb)
        replace HS := Lib.hid (HS.out.next hb)
        replace BB := Lib.hid (Below.andThen BB.out hb)
        clear hb
        obtain ⟨b', off', e, hb2, hc2'⟩ := HS.out.cells (by simp)
        cases e
        have cS := hc2' 0 s rfl
        rw [Nat.add_zero] at cS
        clear hc2' c0 c1
        go_wp2_with fail
        replace HD := Lib.hid (HD.out.trans (show _ = orNone (100 * d) (match cut [45] s with
          | some (t, o) => tao (simple 0 t) (simple 0 o)
          | none => simple 0 s) from rfl))
        with_reducible refine Calls.mono (simple_any 0 1 (by decide) rfl s w2 HT.out) ?_
        rintro e w' ⟨rfl, rfl⟩
        go_wp2_with fail
        cases hu : cut [45] s with
        | some z =>
          obtain ⟨x, y⟩ := z
          rw [hu] at HD
          replace HD := Lib.hid (HD.out.trans (show _ = orNone (100 * d) (tao (simple 0 x) (simple 0 y)) from rfl))
          have CU := Lib.hid (fun W T => Cut_some hu (by decide) ⟨#[45]⟩ rfl W T (by exact HZ.out))
          clear hu
          with_reducible refine Calls.mono (CU.out _ HT.out) ?_
          rintro e w3 ⟨rfl, hb⟩
          replace HT := Lib.hid (HT.out.next hb)
          replace BB := Lib.hid (Below.andThen BB.out hb)
          clear hb
          go_wp2_with fail
          with_reducible refine Calls.mono (simple_any 0 1 (by decide) rfl x w3 HT.out) ?_
          rintro e w' ⟨rfl, rfl⟩
          go_wp2_with fail
          with_reducible refine Calls.mono (simple_any 0 1 (by decide) rfl y w3 HT.out) ?_
          rintro e w' ⟨rfl, rfl⟩
          go_wp2_with fail
          have q1 := simple_le (k := 0) (by decide) x
          have q2 := simple_le (k := 0) (by decide) y
          have q3 := tao_le (simple 0 x) (simple 0 y) q1.2
          with_reducible refine Calls.mono (tao_any _ _ w3 (by omega) (by omega)) ?_
          rintro e w' ⟨rfl, rfl⟩
          go_wp2_with fail
          generalize tao (simple 0 x) (simple 0 y) = m at *
          all_goals
            go_ret
            refine ⟨retv (vint ?_), BB.out⟩
            rw [HD.out]
            unfold orNone
            first | (rw [if_pos (by omega)]; done) | (rw [if_neg (by omega)]; done) | (rw [if_neg (by omega)]; omega)
        | none =>
          rw [hu] at HD
          replace HD := Lib.hid (HD.out.trans (show _ = orNone (100 * d) (simple 0 s) from rfl))
          have CU := Lib.hid (fun W T => Cut_none hu (by decide) ⟨#[45]⟩ rfl W T (by exact HZ.out))
          have q1 := simple_le (k := 0) (by decide) s
          generalize simple 0 s = m at *
          clear hu
          with_reducible refine Calls.mono (CU.out _ HT.out) ?_
          rintro e w3 ⟨rfl, hb⟩
          replace HT := Lib.hid (HT.out.next hb)
          replace BB := Lib.hid (Below.andThen BB.out hb)
          clear hb
          go_wp2_with fail
          all_goals
            go_ret
            refine ⟨retv (vint ?_), BB.out⟩
            rw [HD.out]
            unfold orNone
            first | (rw [if_pos (by omega)]; done) | (rw [if_neg (by omega)]; done) | (rw [if_neg (by omega)]; omega)
      · obtain ⟨L, hL⟩ : ∃ L, rest2.length = L := ⟨_, rfl⟩
        have hn3 : n = L + 3 := by rw [hn2, List.length_cons, hL]
        have hL0 : L ≠ 0 := fun h => h1 (List.eq_nil_of_length_eq_zero (hL.trans h))
        replace HD := Lib.hid (HD.out.trans (enTail_ne _ (by rw [List.length_cons, hL]; omega)))
        subst hn3
        clear HZS HL hn2 hL h1
        go_enter Tryd.func65, Tryd.ntmps65
        go_wp2_with fail
        refine wp_region_kin (by kernel_rfl) (by kernel_rfl) w.heap.size 0 (by simp) (fun hk => ?_)
        repeat (go_big_quiet_step ((go_at_call 72; first | with_reducible exact Calls.kin (CS.out _ (HT.out.next (Kin.below _))))))
        refine wpQuiet_nil ?_
        clear hk
        intro w2 hb
        replace HT := Lib.hid (HT.out.next hb)
        replace HS := Lib.hid (HS.out.next hb)
        replace BB := Lib.hid (Below.andThen BB.out hb)
        clear hb
        go_wp2_with fail
        go_ret
        exact ⟨retv (vint HD.out.symm), BB.out⟩
  · by_cases h1 : n = 1
    · subst h1
      obtain ⟨s, rfl⟩ := List.length_eq_one_iff.1 HL.out
      obtain ⟨b, off, rfl, hb, hc⟩ := hS.cells (by simp)
      have cS := hc 0 s rfl
      rw [Nat.add_zero] at cS
      have HZ := Lib.hid (HZS.out s (by simp))
      have HD := Lib.hid (show enSmall [s] = enTail 0 [s] from rfl)
      generalize enSmall [s] = D at *
      clear HZS HL hc hS hh
      go_enter Tryd.func65, Tryd.ntmps65
      go_wp2_with fail
      replace HD := Lib.hid (HD.out.trans (show _ = orNone 0 (match cut [45] s with
        | some (t, o) => tao (simple 0 t) (simple 0 o)
        | none => simple 0 s) from rfl))
      with_reducible refine Calls.mono (simple_any 0 1 (by decide) rfl s w HT.out) ?_
      rintro e w' ⟨rfl, rfl⟩
      go_wp2_with fail
      cases hu : cut [45] s with
      | some z =>
        obtain ⟨x, y⟩ := z
        rw [hu] at HD
        replace HD := Lib.hid (HD.out.trans (show _ = orNone 0 (tao (simple 0 x) (simple 0 y)) from rfl))
        have CU := Lib.hid (fun W T => Cut_some hu (by decide) ⟨#[45]⟩ rfl W T (by exact HZ.out))
        clear hu
        with_reducible refine Calls.mono (CU.out _ HT.out) ?_
        rintro e w3 ⟨rfl, hb⟩
        replace HT := Lib.hid (HT.out.next hb)
        replace BB := Lib.hid (Below.andThen BB.out hb)
        clear hb
        go_wp2_with fail
        with_reducible refine Calls.mono (simple_any 0 1 (by decide) rfl x w3 HT.out) ?_
        rintro e w' ⟨rfl, rfl⟩
        go_wp2_with fail
        with_reducible refine Calls.mono (simple_any 0 1 (by decide) rfl y w3 HT.out) ?_
        rintro e w' ⟨rfl, rfl⟩
        go_wp2_with fail
        have q1 := simple_le (k := 0) (by decide) x
        have q2 := simple_le (k := 0) (by decide) y
        have q3 := tao_le (simple 0 x) (simple 0 y) q1.2
        with_reducible refine Calls.mono (tao_any _ _ w3 (by omega) (by omega)) ?_
        rintro e w' ⟨rfl, rfl⟩
        go_wp2_with fail
        generalize tao (simple 0 x) (simple 0 y) = m at *
        all_goals
          go_ret
          refine ⟨retv (vint ?_), BB.out⟩
          rw [HD.out]
          unfold orNone
          first | (rw [if_pos (by omega)]; done) | (rw [if_neg (by omega)]; done) | (rw [if_neg (by omega)]; omega)
      | none =>
        rw [hu] at HD
        replace HD := Lib.hid (HD.out.trans (show _ = orNone 0 (simple 0 s) from rfl))
        have CU := Lib.hid (fun W T => Cut_none hu (by decide) ⟨#[45]⟩ rfl W T (by exact HZ.out))
        have q1 := simple_le (k := 0) (by decide) s
        generalize simple 0 s = m at *
        clear hu
        with_reducible refine Calls.mono (CU.out _ HT.out) ?_
        rintro e w3 ⟨rfl, hb⟩
        replace HT := Lib.hid (HT.out.next hb)
        replace BB := Lib.hid (Below.andThen BB.out hb)
        clear hb
        go_wp2_with fail
        all_goals
          go_ret
          refine ⟨retv (vint ?_), BB.out⟩
          rw [HD.out]
          unfold orNone
          first | (rw [if_pos (by omega)]; done) | (rw [if_neg (by omega)]; done) | (rw [if_neg (by omega)]; omega)
    · have e : enSmall l = -1 := by
        match l, HL.out, hh with
        | [], _, _ => rfl
        | [_], h, _ => exact absurd h.symm h1
        | x :: y :: r, _, hh => exact (if_neg (fun h => hh ⟨x, r, by rw [h]⟩) : (if y = hundred then (if r = [] then 100 * simple 0 x else enTail (100 * simple 0 x) r) else enTail 0 (x :: y :: r)) = _)
      rw [e]
      have h2 : ((n : Int) == 1) = false := by simp; omega
      by_cases h0 : n = 0
      · subst h0
        clear HZS HL hS hh
        go_enter Tryd.func65, Tryd.ntmps65
        go_wp2_with fail
        go_ret
        exact ⟨rfl, Below.refl _ _⟩
      · match l, HL.out, hh with
        | x :: y :: r, hln, hh =>
          obtain ⟨b, off, rfl, hb, hc⟩ := hS.cells (by simp)
          have c1 := hc 1 y rfl
          have hb1 : ((bs y).toList == ([104, 117, 110, 100, 114, 101, 100] : List UInt8)) = false := (beq_lit y hundred).trans (decide_eq_false (fun h => hh ⟨x, r, by rw [h]⟩))
          have hn2 : 2 ≤ n := by rw [← hln]; simp
          have hn3 : (1 : Int) < n := by omega
          clear HZS HL hS hh hc hln e
          go_enter Tryd.func65, Tryd.ntmps65
          go_wp2_with fail
          go_ret
          exact ⟨rfl, Below.refl _ _⟩
        | [], hln, _ => exact absurd hln.symm h0
        | [_], hln, _ => exact absurd hln.symm h1
end Wo
end Go.Proofs.YtebdpdmkehfgfaaDoor
