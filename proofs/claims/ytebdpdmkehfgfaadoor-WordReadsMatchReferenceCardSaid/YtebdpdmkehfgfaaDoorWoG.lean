/- Spanish words less than 1000, read. -/
import Derived.Test.YtebdpdmkehfgfaaDoorWoF
set_option linter.unusedVariables false
set_option linter.unusedSimpArgs false
namespace Go.Proofs.YtebdpdmkehfgfaaDoor
open Go.RowKit
namespace Wo
theorem spanishOne_b (s : B) (w : World) (T : Tab w) : Calls Tryd.prog 80 #[.string (bs s)] w fun e w' => e = .returned (.int .i64 (esOne s)) ∧ Below w.heap.size w w' :=
  (spanishOne_any s w T).mono fun e w' h => ⟨h.1, by rw [h.2]; exact Below.refl _ _⟩
theorem tao_b (t o : Int) (w : World) (ht : t ≤ 1000) (ho : o ≤ 1000) : Calls Tryd.prog 74 #[.int .i64 t, .int .i64 o] w fun e w' => e = .returned (.int .i64 (tao t o)) ∧ Below w.heap.size w w' :=
  (tao_any t o w ht ho).mono fun e w' h => ⟨h.1, by rw [h.2]; exact Below.refl _ _⟩
theorem hund_sl {w : World} (T : Tab w) : SSl w (some ⟨2, 0, none⟩) hundreds :=
  .inr ⟨_, 0, rfl, Nat.lt_of_lt_of_le (by decide) T.lt, fun j x hx => by
    have hj : j < 9 := (List.getElem?_eq_some_iff.1 hx).1
    have := T.hund j hj
    rw [Nat.zero_add, this, List.getD_eq_getElem?_getD, hx]
    rfl⟩
theorem hund_b (s : B) (w : World) (T : Tab w) : Calls Tryd.prog 51 #[.slice (some ⟨2, 0, none⟩) 9 9, .string (bs s)] w fun e w' => e = .returned (.int .i64 (idxI s hundreds)) ∧ Below w.heap.size w w' :=
  (Index_any _ 9 9 hundreds s (bs s) rfl w rfl (by decide) (hund_sl T)).mono fun e w' h => ⟨h.1, by rw [h.2]; exact Below.refl _ _⟩
theorem esTail_ne (n : Int) {x y : B} : esTail n [x, y] = -1 := rfl
set_option maxRecDepth 100000 in
set_option maxHeartbeats 4000000 in
theorem spanishSmall_any (o : Option Addr) (n c : Nat) (l : List B) (w : World) (T : Tab w) (hl : l.length = n) (h0 : l ≠ []) (hn : n ≤ 1000000) (hnc : n ≤ c) (hc2 : c ≤ 9223372036854775807) (hs : ∀ s ∈ l, s.length ≤ 1000000) (hS : SSl w o l) :
    Calls Tryd.prog 71 #[.slice o n c] w fun e w' => e = .returned (.int .i64 (esSmall l)) ∧ Below w.heap.size w w' := by
  have HT := Lib.hid T
  have BB := Lib.hid (Below.refl w.heap.size w)
  have HZS := Lib.hid hs
  clear T hs
  obtain ⟨b, off, rfl, hb, hc⟩ := hS.cells h0
  obtain ⟨s0, rest, rfl⟩ : ∃ s0 rest, l = s0 :: rest := by
    cases l with
    | nil => exact absurd rfl h0
    | cons a r => exact ⟨a, r, rfl⟩
  have c0 := hc 0 s0 rfl
  rw [Nat.add_zero] at c0
  have hL : n = rest.length + 1 := by rw [← hl]; rfl
  by_cases hci : s0 = cien
  · have hbc : ((bs s0).toList == ([99, 105, 101, 110] : List UInt8)) = true := (beq_lit s0 cien).trans (decide_eq_true hci)
    have HS := Lib.hid (SSl.drop 1 (show SSl w (some ⟨b, off, none⟩) _ from .inr ⟨b, off, rfl, hb, hc⟩))
    have HD := Lib.hid (show esSmall (s0 :: rest) = esTail 100 rest from if_pos hci)
    generalize esSmall (s0 :: rest) = D at *
    clear hc hS hci h0 hl
    rcases rest with _ | ⟨s, _ | ⟨y, _ | ⟨z, _ | ⟨v, r4⟩⟩⟩⟩
    · have hn1 : n = 1 := hL
      subst hn1
      clear hL HZS
      by_cases hcc : c = 1
      · subst hcc
        go_enter Tryd.func71, Tryd.ntmps71
        go_wp2_with fail
        refine wp_region_kin (by kernel_rfl) (by kernel_rfl) w.heap.size 0 (by simp) (fun hk => ?_)
        repeat (go_big_quiet_step (fail))
        refine wpQuiet_nil ?_
        clear hk
        intro w2 hb
        replace HT := Lib.hid (HT.out.next hb)
        replace HS := Lib.hid (HS.out.next hb)
        replace BB := Lib.hid (Below.andThen BB.out hb)
        clear hb
        go_wp2_with fail
        go_ret
        exact ⟨retv (vint HD.out.symm), BB.out⟩
      · have hcc2 : ¬ (c : Int) = 1 := by omega
        go_enter Tryd.func71, Tryd.ntmps71
        go_wp2_with fail
        refine wp_region_kin (by kernel_rfl) (by kernel_rfl) w.heap.size 0 (by simp) (fun hk => ?_)
        repeat (go_big_quiet_step (fail))
        refine wpQuiet_nil ?_
        clear hk
        intro w2 hb
        replace HT := Lib.hid (HT.out.next hb)
        replace HS := Lib.hid (HS.out.next hb)
        replace BB := Lib.hid (Below.andThen BB.out hb)
        clear hb
        go_wp2_with fail
        go_ret
        exact ⟨retv (vint HD.out.symm), BB.out⟩
    · have hn1 : n = 2 := hL
      subst hn1
      have hcc2 : ¬ (c : Int) = 1 := by omega
      have HZR := Lib.hid (show ∀ t ∈ [s], t.length ≤ 1000000 from fun t ht => HZS.out t (List.mem_cons_of_mem _ ht))
      clear hL HZS
      go_enter Tryd.func71, Tryd.ntmps71
      go_wp2_with fail
      refine wp_region_kin (by kernel_rfl) (by kernel_rfl) w.heap.size 0 (by simp) (fun hk => ?_)
      repeat (go_big_quiet_step (fail))
      refine wpQuiet_nil ?_
      clear hk
      intro w2 hb
      replace HT := Lib.hid (HT.out.next hb)
      replace HS := Lib.hid (HS.out.next hb)
      replace BB := Lib.hid (Below.andThen BB.out hb)
      clear hb
      have HZ := Lib.hid (HZR.out s (by simp))
      obtain ⟨b', off', e, hb2, hc2'⟩ := HS.out.cells (by simp)
      cases e
      have cS0 := hc2' 0 s rfl
      rw [Nat.add_zero] at cS0
      clear hc2'
      replace HD := Lib.hid (HD.out.trans (show _ = (let m := match cutPrefix veinti s with
          | some o => tao 20 (esOne o)
          | none => esOne s
        if m < 0 then -1 else 100 + m) from rfl))
      go_wp2_with fail
      with_reducible refine Calls.mono (spanishOne_any s w2 HT.out) ?_
      rintro e w' ⟨rfl, rfl⟩
      go_wp2_with fail
      cases hu : cutPrefix veinti s with
      | some z =>
        rw [hu] at HD
        replace HD := Lib.hid (HD.out.trans (show _ = if tao 20 (esOne z) < 0 then -1 else 100 + tao 20 (esOne z) from rfl))
        have CU := Lib.hid (fun W => CutPrefix_some hu ⟨#[118, 101, 105, 110, 116, 105]⟩ rfl W)
        clear hu
        with_reducible refine Calls.mono (CU.out _) ?_
        rintro e w' ⟨rfl, rfl⟩
        go_wp2_with fail
        with_reducible refine Calls.mono (spanishOne_any z w2 HT.out) ?_
        rintro e w' ⟨rfl, rfl⟩
        go_wp2_with fail
        have q2 := esOne_le z
        have q3 := tao_le 20 (esOne z) (by decide)
        with_reducible refine Calls.mono (tao_any _ _ w2 (by omega) (by omega)) ?_
        rintro e w' ⟨rfl, rfl⟩
        go_wp2_with fail
        generalize tao 20 (esOne z) = m at *
        all_goals
          go_ret
          refine ⟨retv (vint ?_), BB.out⟩
          rw [HD.out]
          first | (rw [if_pos (by omega)]; done) | (rw [if_neg (by omega)]; done) | (rw [if_neg (by omega)]; omega)
      | none =>
        rw [hu] at HD
        replace HD := Lib.hid (HD.out.trans (show _ = if esOne s < 0 then -1 else 100 + esOne s from rfl))
        have CU := Lib.hid (fun W => CutPrefix_none hu ⟨#[118, 101, 105, 110, 116, 105]⟩ rfl W)
        have q1 := esOne_le s
        generalize esOne s = m at *
        clear hu
        with_reducible refine Calls.mono (CU.out _) ?_
        rintro e w' ⟨rfl, rfl⟩
        go_wp2_with fail
        all_goals
          go_ret
          refine ⟨retv (vint ?_), BB.out⟩
          rw [HD.out]
          first | (rw [if_pos (by omega)]; done) | (rw [if_neg (by omega)]; done) | (rw [if_neg (by omega)]; omega)
    · have hn1 : n = 3 := hL
      subst hn1
      have hcc2 : ¬ (c : Int) = 1 := by omega
      clear hL HZS
      go_enter Tryd.func71, Tryd.ntmps71
      go_wp2_with fail
      refine wp_region_kin (by kernel_rfl) (by kernel_rfl) w.heap.size 0 (by simp) (fun hk => ?_)
      repeat (go_big_quiet_step (fail))
      refine wpQuiet_nil ?_
      clear hk
      intro w2 hb
      replace HT := Lib.hid (HT.out.next hb)
      replace HS := Lib.hid (HS.out.next hb)
      replace BB := Lib.hid (Below.andThen BB.out hb)
      clear hb
      go_wp2_with fail
      go_ret
      exact ⟨retv (vint HD.out.symm), BB.out⟩
    · have hn1 : n = 4 := hL
      subst hn1
      have hcc2 : ¬ (c : Int) = 1 := by omega
      clear hL HZS
      go_enter Tryd.func71, Tryd.ntmps71
      go_wp2_with fail
      refine wp_region_kin (by kernel_rfl) (by kernel_rfl) w.heap.size 0 (by simp) (fun hk => ?_)
      repeat (go_big_quiet_step (fail))
      refine wpQuiet_nil ?_
      clear hk
      intro w2 hb
      replace HT := Lib.hid (HT.out.next hb)
      replace HS := Lib.hid (HS.out.next hb)
      replace BB := Lib.hid (Below.andThen BB.out hb)
      clear hb
      obtain ⟨b', off', e, hb2, hc2'⟩ := HS.out.cells (by simp)
      cases e
      have cS0 := hc2' 0 s rfl
      have cS1 := hc2' 1 y rfl
      have cS2 := hc2' 2 z rfl
      rw [Nat.add_zero] at cS0
      clear hc2'
      by_cases hy : y = yy
      · have hby : ((bs y).toList == ([121] : List UInt8)) = true := (beq_lit y yy).trans (decide_eq_true hy)
        replace HD := Lib.hid (HD.out.trans (show _ = if tao (simple 2 s) (esOne z) < 0 then -1 else 100 + tao (simple 2 s) (esOne z) from if_pos hy))
        have q1 := simple_le (k := 2) (by decide) s
        have q2 := esOne_le z
        have q3 := tao_le (simple 2 s) (esOne z) q1.2
        have CS := Lib.hid (fun W T => simple_b 2 3 (by decide) rfl s W T)
        have CO := Lib.hid (fun W T => spanishOne_b z W T)
        have CT := Lib.hid (fun W (_ : Tab W) => tao_b (simple 2 s) (esOne z) W (by omega) (by omega))
        generalize tao (simple 2 s) (esOne z) = m at *
        generalize simple 2 s = m1 at *
        generalize esOne z = m2 at *
        clear hy
        go_wp2_with fail
        refine wp_region_kin (by kernel_rfl) (by kernel_rfl) w2.heap.size 0 (by simp) (fun hk => ?_)
        repeat (go_big_quiet_step ((first | (go_at_call 72; first | with_reducible exact Calls.kin (CS.out _ (HT.out.next (Kin.below _)))) | (go_at_call 80; first | with_reducible exact Calls.kin (CO.out _ (HT.out.next (Kin.below _)))) | (go_at_call 74; first | with_reducible exact Calls.kin (CT.out _ (HT.out.next (Kin.below _)))))))
        refine wpQuiet_nil ?_
        clear hk
        intro w9 hb
        replace HT := Lib.hid (HT.out.next hb)
        replace BB := Lib.hid (Below.andThen BB.out hb)
        clear hb
        go_wp2_with fail
        all_goals
          go_ret
          refine ⟨retv (vint ?_), BB.out⟩
          rw [HD.out]
          first | (rw [if_pos (by omega)]; done) | (rw [if_neg (by omega)]; done) | (rw [if_neg (by omega)]; omega)
      · have hby : ((bs y).toList == ([121] : List UInt8)) = false := (beq_lit y yy).trans (decide_eq_false hy)
        replace HD := Lib.hid (HD.out.trans (show _ = -1 from if_neg hy))
        clear hy
        go_wp2_with fail
        go_ret
        exact ⟨retv (vint HD.out.symm), BB.out⟩
    · obtain ⟨L, hLL⟩ : ∃ L, r4.length = L := ⟨_, rfl⟩
      have hn1 : n = L + 5 := by rw [hL, ← hLL]; rfl
      subst hn1
      have hcc2 : ¬ (c : Int) = 1 := by omega
      clear hL HZS hLL
      go_enter Tryd.func71, Tryd.ntmps71
      go_wp2_with fail
      refine wp_region_kin (by kernel_rfl) (by kernel_rfl) w.heap.size 0 (by simp) (fun hk => ?_)
      repeat (go_big_quiet_step (fail))
      refine wpQuiet_nil ?_
      clear hk
      intro w2 hb
      replace HT := Lib.hid (HT.out.next hb)
      replace HS := Lib.hid (HS.out.next hb)
      replace BB := Lib.hid (Below.andThen BB.out hb)
      clear hb
      go_wp2_with fail
      go_ret
      exact ⟨retv (vint HD.out.symm), BB.out⟩
  · have hbc : ((bs s0).toList == ([99, 105, 101, 110] : List UInt8)) = false := (beq_lit s0 cien).trans (decide_eq_false hci)
    have CX := Lib.hid (fun W T => hund_b s0 W T)
    cases hix : idx s0 hundreds with
    | some i =>
      have hi9 : i < 9 := (List.findIdx?_eq_some_iff_getElem.1 hix).1
      have ei : idxI s0 hundreds = (i : Int) := by unfold idxI; rw [hix]
      rw [ei] at CX
      have HS := Lib.hid (SSl.drop 1 (show SSl w (some ⟨b, off, none⟩) _ from .inr ⟨b, off, rfl, hb, hc⟩))
      have HD := Lib.hid (show esSmall (s0 :: rest) = esTail (100 * ((i : Int) + 1)) rest from (if_neg hci).trans (by rw [hix]))
      generalize esSmall (s0 :: rest) = D at *
      clear hc hS hci h0 hl hix ei
      rcases rest with _ | ⟨s, _ | ⟨y, _ | ⟨z, _ | ⟨v, r4⟩⟩⟩⟩
      · have hn1 : n = 1 := hL
        subst hn1
        clear hL HZS
        by_cases hcc : c = 1
        · subst hcc
          go_enter Tryd.func71, Tryd.ntmps71
          go_wp2_with fail
          refine wp_region_kin (by kernel_rfl) (by kernel_rfl) w.heap.size 0 (by simp) (fun hk => ?_)
          repeat (go_big_quiet_step ((go_at_call 51; first | with_reducible exact Calls.kin (CX.out _ (HT.out.next (Kin.below _))))))
          refine wpQuiet_nil ?_
          clear hk
          intro w1 hb
          replace HT := Lib.hid (HT.out.next hb)
          replace HS := Lib.hid (HS.out.next hb)
          replace BB := Lib.hid (Below.andThen BB.out hb)
          clear hb
          go_wp2_with fail
          refine wp_region_kin (by kernel_rfl) (by kernel_rfl) w1.heap.size 0 (by simp) (fun hk => ?_)
          repeat (go_big_quiet_step (fail))
          refine wpQuiet_nil ?_
          clear hk
          intro w2 hb
          replace HT := Lib.hid (HT.out.next hb)
          replace HS := Lib.hid (HS.out.next hb)
          replace BB := Lib.hid (Below.andThen BB.out hb)
          clear hb
          go_wp2_with fail
          go_ret
          exact ⟨retv (vint HD.out.symm), BB.out⟩
        · have hcc2 : ¬ (c : Int) = 1 := by omega
          go_enter Tryd.func71, Tryd.ntmps71
          go_wp2_with fail
          refine wp_region_kin (by kernel_rfl) (by kernel_rfl) w.heap.size 0 (by simp) (fun hk => ?_)
          repeat (go_big_quiet_step ((go_at_call 51; first | with_reducible exact Calls.kin (CX.out _ (HT.out.next (Kin.below _))))))
          refine wpQuiet_nil ?_
          clear hk
          intro w1 hb
          replace HT := Lib.hid (HT.out.next hb)
          replace HS := Lib.hid (HS.out.next hb)
          replace BB := Lib.hid (Below.andThen BB.out hb)
          clear hb
          go_wp2_with fail
          refine wp_region_kin (by kernel_rfl) (by kernel_rfl) w1.heap.size 0 (by simp) (fun hk => ?_)
          repeat (go_big_quiet_step (fail))
          refine wpQuiet_nil ?_
          clear hk
          intro w2 hb
          replace HT := Lib.hid (HT.out.next hb)
          replace HS := Lib.hid (HS.out.next hb)
          replace BB := Lib.hid (Below.andThen BB.out hb)
          clear hb
          go_wp2_with fail
          go_ret
          exact ⟨retv (vint HD.out.symm), BB.out⟩
      · have hn1 : n = 2 := hL
        subst hn1
        have hcc2 : ¬ (c : Int) = 1 := by omega
        have HZR := Lib.hid (show ∀ t ∈ [s], t.length ≤ 1000000 from fun t ht => HZS.out t (List.mem_cons_of_mem _ ht))
        clear hL HZS
        go_enter Tryd.func71, Tryd.ntmps71
        go_wp2_with fail
        refine wp_region_kin (by kernel_rfl) (by kernel_rfl) w.heap.size 0 (by simp) (fun hk => ?_)
        repeat (go_big_quiet_step ((go_at_call 51; first | with_reducible exact Calls.kin (CX.out _ (HT.out.next (Kin.below _))))))
        refine wpQuiet_nil ?_
        clear hk
        intro w1 hb
        replace HT := Lib.hid (HT.out.next hb)
        replace HS := Lib.hid (HS.out.next hb)
        replace BB := Lib.hid (Below.andThen BB.out hb)
        clear hb
        go_wp2_with fail
        refine wp_region_kin (by kernel_rfl) (by kernel_rfl) w1.heap.size 0 (by simp) (fun hk => ?_)
        repeat (go_big_quiet_step (fail))
        refine wpQuiet_nil ?_
        clear hk
        intro w2 hb
        replace HT := Lib.hid (HT.out.next hb)
        replace HS := Lib.hid (HS.out.next hb)
        replace BB := Lib.hid (Below.andThen BB.out hb)
        clear hb
        have HZ := Lib.hid (HZR.out s (by simp))
        obtain ⟨b', off', e, hb2, hc2'⟩ := HS.out.cells (by simp)
        cases e
        have cS0 := hc2' 0 s rfl
        rw [Nat.add_zero] at cS0
        clear hc2'
        replace HD := Lib.hid (HD.out.trans (show _ = (let m := match cutPrefix veinti s with
            | some o => tao 20 (esOne o)
            | none => esOne s
          if m < 0 then -1 else 100 * ((i : Int) + 1) + m) from rfl))
        go_wp2_with fail
        with_reducible refine Calls.mono (spanishOne_any s w2 HT.out) ?_
        rintro e w' ⟨rfl, rfl⟩
        go_wp2_with fail
        cases hu : cutPrefix veinti s with
        | some z =>
          rw [hu] at HD
          replace HD := Lib.hid (HD.out.trans (show _ = if tao 20 (esOne z) < 0 then -1 else 100 * ((i : Int) + 1) + tao 20 (esOne z) from rfl))
          have CU := Lib.hid (fun W => CutPrefix_some hu ⟨#[118, 101, 105, 110, 116, 105]⟩ rfl W)
          clear hu
          with_reducible refine Calls.mono (CU.out _) ?_
          rintro e w' ⟨rfl, rfl⟩
          go_wp2_with fail
          with_reducible refine Calls.mono (spanishOne_any z w2 HT.out) ?_
          rintro e w' ⟨rfl, rfl⟩
          go_wp2_with fail
          have q2 := esOne_le z
          have q3 := tao_le 20 (esOne z) (by decide)
          with_reducible refine Calls.mono (tao_any _ _ w2 (by omega) (by omega)) ?_
          rintro e w' ⟨rfl, rfl⟩
          go_wp2_with fail
          generalize tao 20 (esOne z) = m at *
          all_goals
            go_ret
            refine ⟨retv (vint ?_), BB.out⟩
            rw [HD.out]
            first | (rw [if_pos (by omega)]; done) | (rw [if_neg (by omega)]; done) | (rw [if_neg (by omega)]; omega)
        | none =>
          rw [hu] at HD
          replace HD := Lib.hid (HD.out.trans (show _ = if esOne s < 0 then -1 else 100 * ((i : Int) + 1) + esOne s from rfl))
          have CU := Lib.hid (fun W => CutPrefix_none hu ⟨#[118, 101, 105, 110, 116, 105]⟩ rfl W)
          have q1 := esOne_le s
          generalize esOne s = m at *
          clear hu
          with_reducible refine Calls.mono (CU.out _) ?_
          rintro e w' ⟨rfl, rfl⟩
          go_wp2_with fail
          all_goals
            go_ret
            refine ⟨retv (vint ?_), BB.out⟩
            rw [HD.out]
            first | (rw [if_pos (by omega)]; done) | (rw [if_neg (by omega)]; done) | (rw [if_neg (by omega)]; omega)
      · have hn1 : n = 3 := hL
        subst hn1
        have hcc2 : ¬ (c : Int) = 1 := by omega
        clear hL HZS
        go_enter Tryd.func71, Tryd.ntmps71
        go_wp2_with fail
        refine wp_region_kin (by kernel_rfl) (by kernel_rfl) w.heap.size 0 (by simp) (fun hk => ?_)
        repeat (go_big_quiet_step ((go_at_call 51; first | with_reducible exact Calls.kin (CX.out _ (HT.out.next (Kin.below _))))))
        refine wpQuiet_nil ?_
        clear hk
        intro w1 hb
        replace HT := Lib.hid (HT.out.next hb)
        replace HS := Lib.hid (HS.out.next hb)
        replace BB := Lib.hid (Below.andThen BB.out hb)
        clear hb
        go_wp2_with fail
        refine wp_region_kin (by kernel_rfl) (by kernel_rfl) w1.heap.size 0 (by simp) (fun hk => ?_)
        repeat (go_big_quiet_step (fail))
        refine wpQuiet_nil ?_
        clear hk
        intro w2 hb
        replace HT := Lib.hid (HT.out.next hb)
        replace HS := Lib.hid (HS.out.next hb)
        replace BB := Lib.hid (Below.andThen BB.out hb)
        clear hb
        go_wp2_with fail
        go_ret
        exact ⟨retv (vint HD.out.symm), BB.out⟩
      · have hn1 : n = 4 := hL
        subst hn1
        have hcc2 : ¬ (c : Int) = 1 := by omega
        clear hL HZS
        go_enter Tryd.func71, Tryd.ntmps71
        go_wp2_with fail
        refine wp_region_kin (by kernel_rfl) (by kernel_rfl) w.heap.size 0 (by simp) (fun hk => ?_)
        repeat (go_big_quiet_step ((go_at_call 51; first | with_reducible exact Calls.kin (CX.out _ (HT.out.next (Kin.below _))))))
        refine wpQuiet_nil ?_
        clear hk
        intro w1 hb
        replace HT := Lib.hid (HT.out.next hb)
        replace HS := Lib.hid (HS.out.next hb)
        replace BB := Lib.hid (Below.andThen BB.out hb)
        clear hb
        go_wp2_with fail
        refine wp_region_kin (by kernel_rfl) (by kernel_rfl) w1.heap.size 0 (by simp) (fun hk => ?_)
        repeat (go_big_quiet_step (fail))
        refine wpQuiet_nil ?_
        clear hk
        intro w2 hb
        replace HT := Lib.hid (HT.out.next hb)
        replace HS := Lib.hid (HS.out.next hb)
        replace BB := Lib.hid (Below.andThen BB.out hb)
        clear hb
        obtain ⟨b', off', e, hb2, hc2'⟩ := HS.out.cells (by simp)
        cases e
        have cS0 := hc2' 0 s rfl
        have cS1 := hc2' 1 y rfl
        have cS2 := hc2' 2 z rfl
        rw [Nat.add_zero] at cS0
        clear hc2'
        by_cases hy : y = yy
        · have hby : ((bs y).toList == ([121] : List UInt8)) = true := (beq_lit y yy).trans (decide_eq_true hy)
          replace HD := Lib.hid (HD.out.trans (show _ = if tao (simple 2 s) (esOne z) < 0 then -1 else 100 * ((i : Int) + 1) + tao (simple 2 s) (esOne z) from if_pos hy))
          have q1 := simple_le (k := 2) (by decide) s
          have q2 := esOne_le z
          have q3 := tao_le (simple 2 s) (esOne z) q1.2
          have CS := Lib.hid (fun W T => simple_b 2 3 (by decide) rfl s W T)
          have CO := Lib.hid (fun W T => spanishOne_b z W T)
          have CT := Lib.hid (fun W (_ : Tab W) => tao_b (simple 2 s) (esOne z) W (by omega) (by omega))
          generalize tao (simple 2 s) (esOne z) = m at *
          generalize simple 2 s = m1 at *
          generalize esOne z = m2 at *
          clear hy
          go_wp2_with fail
          refine wp_region_kin (by kernel_rfl) (by kernel_rfl) w2.heap.size 0 (by simp) (fun hk => ?_)
          repeat (go_big_quiet_step ((first | (go_at_call 72; first | with_reducible exact Calls.kin (CS.out _ (HT.out.next (Kin.below _)))) | (go_at_call 80; first | with_reducible exact Calls.kin (CO.out _ (HT.out.next (Kin.below _)))) | (go_at_call 74; first | with_reducible exact Calls.kin (CT.out _ (HT.out.next (Kin.below _)))))))
          refine wpQuiet_nil ?_
          clear hk
          intro w9 hb
          replace HT := Lib.hid (HT.out.next hb)
          replace BB := Lib.hid (Below.andThen BB.out hb)
          clear hb
          go_wp2_with fail
          all_goals
            go_ret
            refine ⟨retv (vint ?_), BB.out⟩
            rw [HD.out]
            first | (rw [if_pos (by omega)]; done) | (rw [if_neg (by omega)]; done) | (rw [if_neg (by omega)]; omega)
        · have hby : ((bs y).toList == ([121] : List UInt8)) = false := (beq_lit y yy).trans (decide_eq_false hy)
          replace HD := Lib.hid (HD.out.trans (show _ = -1 from if_neg hy))
          clear hy
          go_wp2_with fail
          go_ret
          exact ⟨retv (vint HD.out.symm), BB.out⟩
      · obtain ⟨L, hLL⟩ : ∃ L, r4.length = L := ⟨_, rfl⟩
        have hn1 : n = L + 5 := by rw [hL, ← hLL]; rfl
        subst hn1
        have hcc2 : ¬ (c : Int) = 1 := by omega
        clear hL HZS hLL
        go_enter Tryd.func71, Tryd.ntmps71
        go_wp2_with fail
        refine wp_region_kin (by kernel_rfl) (by kernel_rfl) w.heap.size 0 (by simp) (fun hk => ?_)
        repeat (go_big_quiet_step ((go_at_call 51; first | with_reducible exact Calls.kin (CX.out _ (HT.out.next (Kin.below _))))))
        refine wpQuiet_nil ?_
        clear hk
        intro w1 hb
        replace HT := Lib.hid (HT.out.next hb)
        replace HS := Lib.hid (HS.out.next hb)
        replace BB := Lib.hid (Below.andThen BB.out hb)
        clear hb
        go_wp2_with fail
        refine wp_region_kin (by kernel_rfl) (by kernel_rfl) w1.heap.size 0 (by simp) (fun hk => ?_)
        repeat (go_big_quiet_step (fail))
        refine wpQuiet_nil ?_
        clear hk
        intro w2 hb
        replace HT := Lib.hid (HT.out.next hb)
        replace HS := Lib.hid (HS.out.next hb)
        replace BB := Lib.hid (Below.andThen BB.out hb)
        clear hb
        go_wp2_with fail
        go_ret
        exact ⟨retv (vint HD.out.symm), BB.out⟩
    | none =>
      have ei : idxI s0 hundreds = -1 := by unfold idxI; rw [hix]
      rw [ei] at CX
      have HS := Lib.hid (show SSl w (some ⟨b, off, none⟩) (s0 :: rest) from .inr ⟨b, off, rfl, hb, hc⟩)
      have HD := Lib.hid (show esSmall (s0 :: rest) = esTail 0 (s0 :: rest) from (if_neg hci).trans (by rw [hix]))
      generalize esSmall (s0 :: rest) = D at *
      clear hc hS hci h0 hl hix ei
      rcases rest with _ | ⟨y, _ | ⟨z, _ | ⟨v, r4⟩⟩⟩
      · have hn1 : n = 1 := hL
        subst hn1
        have HZR := HZS
        clear hL HZS
        go_enter Tryd.func71, Tryd.ntmps71
        go_wp2_with fail
        refine wp_region_kin (by kernel_rfl) (by kernel_rfl) w.heap.size 0 (by simp) (fun hk => ?_)
        repeat (go_big_quiet_step ((go_at_call 51; first | with_reducible exact Calls.kin (CX.out _ (HT.out.next (Kin.below _))))))
        refine wpQuiet_nil ?_
        clear hk
        intro w2 hb
        replace HT := Lib.hid (HT.out.next hb)
        replace HS := Lib.hid (HS.out.next hb)
        replace BB := Lib.hid (Below.andThen BB.out hb)
        clear hb
        have HZ := Lib.hid (HZR.out s0 (by simp))
        obtain ⟨b', off', e, hb2, hc2'⟩ := HS.out.cells (by simp)
        cases e
        have cS0 := hc2' 0 s0 rfl
        rw [Nat.add_zero] at cS0
        clear hc2'
        replace HD := Lib.hid (HD.out.trans (show _ = (let m := match cutPrefix veinti s0 with
            | some o => tao 20 (esOne o)
            | none => esOne s0
          if m < 0 then -1 else 0 + m) from rfl))
        go_wp2_with fail
        with_reducible refine Calls.mono (spanishOne_any s0 w2 HT.out) ?_
        rintro e w' ⟨rfl, rfl⟩
        go_wp2_with fail
        cases hu : cutPrefix veinti s0 with
        | some z =>
          rw [hu] at HD
          replace HD := Lib.hid (HD.out.trans (show _ = if tao 20 (esOne z) < 0 then -1 else 0 + tao 20 (esOne z) from rfl))
          have CU := Lib.hid (fun W => CutPrefix_some hu ⟨#[118, 101, 105, 110, 116, 105]⟩ rfl W)
          clear hu
          with_reducible refine Calls.mono (CU.out _) ?_
          rintro e w' ⟨rfl, rfl⟩
          go_wp2_with fail
          with_reducible refine Calls.mono (spanishOne_any z w2 HT.out) ?_
          rintro e w' ⟨rfl, rfl⟩
          go_wp2_with fail
          have q2 := esOne_le z
          have q3 := tao_le 20 (esOne z) (by decide)
          with_reducible refine Calls.mono (tao_any _ _ w2 (by omega) (by omega)) ?_
          rintro e w' ⟨rfl, rfl⟩
          go_wp2_with fail
          generalize tao 20 (esOne z) = m at *
          all_goals
            go_ret
            refine ⟨retv (vint ?_), BB.out⟩
            rw [HD.out]
            first | (rw [if_pos (by omega)]; done) | (rw [if_neg (by omega)]; done) | (rw [if_neg (by omega)]; omega)
        | none =>
          rw [hu] at HD
          replace HD := Lib.hid (HD.out.trans (show _ = if esOne s0 < 0 then -1 else 0 + esOne s0 from rfl))
          have CU := Lib.hid (fun W => CutPrefix_none hu ⟨#[118, 101, 105, 110, 116, 105]⟩ rfl W)
          have q1 := esOne_le s0
          generalize esOne s0 = m at *
          clear hu
          with_reducible refine Calls.mono (CU.out _) ?_
          rintro e w' ⟨rfl, rfl⟩
          go_wp2_with fail
          all_goals
            go_ret
            refine ⟨retv (vint ?_), BB.out⟩
            rw [HD.out]
            first | (rw [if_pos (by omega)]; done) | (rw [if_neg (by omega)]; done) | (rw [if_neg (by omega)]; omega)
      · have hn1 : n = 2 := hL
        subst hn1
        clear hL HZS
        go_enter Tryd.func71, Tryd.ntmps71
        go_wp2_with fail
        refine wp_region_kin (by kernel_rfl) (by kernel_rfl) w.heap.size 0 (by simp) (fun hk => ?_)
        repeat (go_big_quiet_step ((go_at_call 51; first | with_reducible exact Calls.kin (CX.out _ (HT.out.next (Kin.below _))))))
        refine wpQuiet_nil ?_
        clear hk
        intro w2 hb
        replace HT := Lib.hid (HT.out.next hb)
        replace HS := Lib.hid (HS.out.next hb)
        replace BB := Lib.hid (Below.andThen BB.out hb)
        clear hb
        go_wp2_with fail
        go_ret
        exact ⟨retv (vint HD.out.symm), BB.out⟩
      · have hn1 : n = 3 := hL
        subst hn1
        clear hL HZS
        go_enter Tryd.func71, Tryd.ntmps71
        go_wp2_with fail
        refine wp_region_kin (by kernel_rfl) (by kernel_rfl) w.heap.size 0 (by simp) (fun hk => ?_)
        repeat (go_big_quiet_step ((go_at_call 51; first | with_reducible exact Calls.kin (CX.out _ (HT.out.next (Kin.below _))))))
        refine wpQuiet_nil ?_
        clear hk
        intro w2 hb
        replace HT := Lib.hid (HT.out.next hb)
        replace HS := Lib.hid (HS.out.next hb)
        replace BB := Lib.hid (Below.andThen BB.out hb)
        clear hb
        obtain ⟨b', off', e, hb2, hc2'⟩ := HS.out.cells (by simp)
        cases e
        have cS0 := hc2' 0 s0 rfl
        have cS1 := hc2' 1 y rfl
        have cS2 := hc2' 2 z rfl
        rw [Nat.add_zero] at cS0
        clear hc2'
        by_cases hy : y = yy
        · have hby : ((bs y).toList == ([121] : List UInt8)) = true := (beq_lit y yy).trans (decide_eq_true hy)
          replace HD := Lib.hid (HD.out.trans (show _ = if tao (simple 2 s0) (esOne z) < 0 then -1 else 0 + tao (simple 2 s0) (esOne z) from if_pos hy))
          have q1 := simple_le (k := 2) (by decide) s0
          have q2 := esOne_le z
          have q3 := tao_le (simple 2 s0) (esOne z) q1.2
          have CS := Lib.hid (fun W T => simple_b 2 3 (by decide) rfl s0 W T)
          have CO := Lib.hid (fun W T => spanishOne_b z W T)
          have CT := Lib.hid (fun W (_ : Tab W) => tao_b (simple 2 s0) (esOne z) W (by omega) (by omega))
          generalize tao (simple 2 s0) (esOne z) = m at *
          generalize simple 2 s0 = m1 at *
          generalize esOne z = m2 at *
          clear hy
          go_wp2_with fail
          refine wp_region_kin (by kernel_rfl) (by kernel_rfl) w2.heap.size 0 (by simp) (fun hk => ?_)
          repeat (go_big_quiet_step ((first | (go_at_call 72; first | with_reducible exact Calls.kin (CS.out _ (HT.out.next (Kin.below _)))) | (go_at_call 80; first | with_reducible exact Calls.kin (CO.out _ (HT.out.next (Kin.below _)))) | (go_at_call 74; first | with_reducible exact Calls.kin (CT.out _ (HT.out.next (Kin.below _)))))))
          refine wpQuiet_nil ?_
          clear hk
          intro w9 hb
          replace HT := Lib.hid (HT.out.next hb)
          replace BB := Lib.hid (Below.andThen BB.out hb)
          clear hb
          go_wp2_with fail
          all_goals
            go_ret
            refine ⟨retv (vint ?_), BB.out⟩
            rw [HD.out]
            first | (rw [if_pos (by omega)]; done) | (rw [if_neg (by omega)]; done) | (rw [if_neg (by omega)]; omega)
        · have hby : ((bs y).toList == ([121] : List UInt8)) = false := (beq_lit y yy).trans (decide_eq_false hy)
          replace HD := Lib.hid (HD.out.trans (show _ = -1 from if_neg hy))
          clear hy
          go_wp2_with fail
          go_ret
          exact ⟨retv (vint HD.out.symm), BB.out⟩
      · obtain ⟨L, hLL⟩ : ∃ L, r4.length = L := ⟨_, rfl⟩
        have hn1 : n = L + 4 := by rw [hL, ← hLL]; rfl
        subst hn1
        clear hL HZS hLL
        go_enter Tryd.func71, Tryd.ntmps71
        go_wp2_with fail
        refine wp_region_kin (by kernel_rfl) (by kernel_rfl) w.heap.size 0 (by simp) (fun hk => ?_)
        repeat (go_big_quiet_step ((go_at_call 51; first | with_reducible exact Calls.kin (CX.out _ (HT.out.next (Kin.below _))))))
        refine wpQuiet_nil ?_
        clear hk
        intro w2 hb
        replace HT := Lib.hid (HT.out.next hb)
        replace HS := Lib.hid (HS.out.next hb)
        replace BB := Lib.hid (Below.andThen BB.out hb)
        clear hb
        go_wp2_with fail
        go_ret
        exact ⟨retv (vint HD.out.symm), BB.out⟩
end Wo
end Go.Proofs.YtebdpdmkehfgfaaDoor
