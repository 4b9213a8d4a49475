/- For every input, DigestChainBinding returns true and leaves its arguments as they were; the rounds' table holds what the program's text lays. -/
import Derived.Test.YtojfblkmhdgjeaaDoorDigY2
import Derived.Deep.RegionHeld3
namespace Go.Proofs.YtojfblkmhdgjeaaDoor
open Go.RowKit Go.ChangeShapes Go.WideShapes Go.ChangeAt

theorem row_zero (w : World) : Row (w.alloc (.cells zeroC 5)).drew w.heap.size 5 zeroC.toList := by
  have h := Row.new w 5 zeroC.toList
  rw [Array.toArray_toList] at h
  exact h.next (Below.refl _ _).drew
/-- the conversion of the 32 zero bytes -/
def convZ : Op := Op.convert 43 9 (Operand.tmp 76)
attribute [local go_sem] convZ
theorem below_more {w w' : World} (h : Below w.heap.size w w') (o : Obj) : Below w.heap.size w (w'.alloc o) := h.alloc h.size o
set_option maxRecDepth 100000 in
set_option maxHeartbeats 4000000 in
theorem digestChain_all (o : Option Addr) (pn pc : Nat) (S : Nat → ByteArray) (o' : Option Addr) (qn qc : Nat) (S' : Nat → ByteArray) (w : World) (T : Tab w)
    (hpn : pn ≤ maxLen) (hps : ∀ i, i < pn → (S i).size ≤ maxLen) (hpc : ∀ i, i < pn → ∃ a, o = some a ∧ ∀ w', Below w.heap.size w w' → w'.cell? (a.add i) = some (.string (S i)))
    (hqn : qn ≤ maxLen) (hqs : ∀ i, i < qn → (S' i).size ≤ maxLen) (hqc : ∀ i, i < qn → ∃ a, o' = some a ∧ ∀ w', Below w.heap.size w w' → w'.cell? (a.add i) = some (.string (S' i))) :
    Calls Tryd.prog 9 #[.slice o pn pc, .slice o' qn qc] w fun r w' => r = .returned (.bool true) ∧ Below w.heap.size w w' := by
  have HT := Lib.hid T
  have BB := Lib.hid (Below.refl w.heap.size w)
  have CF := Lib.hid (fun w' (hb : Below w.heap.size w w') => few_any o pn pc 20 S w' (by decide) hpn hps (fun i hi => by
    obtain ⟨a, e, h⟩ := hpc i hi
    exact ⟨a, e, fun w2 hb2 => h w2 (Below.andThen hb hb2)⟩))
  have CG := Lib.hid (fun w' (hb : Below w.heap.size w w') => few_any o' qn qc 20 S' w' (by decide) hqn hqs (fun i hi => by
    obtain ⟨a, e, h⟩ := hqc i hi
    exact ⟨a, e, fun w2 hb2 => h w2 (Below.andThen hb hb2)⟩))
  clear T hpc hps hqc hqs hpn hqn
  go_enter Tryd.func9, Tryd.ntmps9
  go_wp2_with fail
  with_reducible refine Calls.mono (sane_any _ HT.out) ?_
  rintro e w1 ⟨rfl, hb⟩
  replace HT := Lib.hid (HT.out.next hb)
  replace BB := Lib.hid (Below.andThen BB.out hb)
  clear hb
  go_wp2_with fail
  with_reducible refine Calls.mono (CF.out _ BB.out) ?_
  rintro e w2 ⟨v, rfl, hown, hb⟩
  replace HT := Lib.hid (HT.out.next hb)
  replace BB := Lib.hid (Below.andThen BB.out hb)
  clear CF hb
  obtain ⟨xs, hxs⟩ : ∃ xs, xs = fewS S (min pn 20) := ⟨_, rfl⟩
  have hxl : xs.length ≤ 20 := by rw [hxs, fewS_length]; omega
  have hxm : ∀ x ∈ xs, x.size ≤ 60 := by rw [hxs]; exact fewS_small S _
  rw [← hxs] at hown
  obtain ⟨vo, vc, rfl, v1, v2, v3⟩ := hown.form
  have HX := Lib.hid hown.sl
  obtain ⟨N, hN⟩ : ∃ N, xs.length = N := ⟨_, rfl⟩
  rw [hN] at hxl ⊢
  have HXN := Lib.hid hN
  have HXM := Lib.hid hxm
  clear hxs hown v1 v2 v3 hN hxm
  go_wp2_with fail
  with_reducible refine Calls.mono (CG.out _ BB.out) ?_
  rintro e w3 ⟨v, rfl, hown, hb⟩
  replace HT := Lib.hid (HT.out.next hb)
  replace HX := Lib.hid (HX.out.next hb)
  replace BB := Lib.hid (Below.andThen BB.out hb)
  clear CG hb
  obtain ⟨ys, hys⟩ : ∃ ys, ys = fewS S' (min qn 20) := ⟨_, rfl⟩
  have hyl : ys.length ≤ 20 := by rw [hys, fewS_length]; omega
  have hym : ∀ x ∈ ys, x.size ≤ 60 := by rw [hys]; exact fewS_small S' _
  rw [← hys] at hown
  obtain ⟨uo, uc, rfl, u1, u2, u3⟩ := hown.form
  have HY := Lib.hid hown.sl
  obtain ⟨M, hM⟩ : ∃ M, ys.length = M := ⟨_, rfl⟩
  rw [hM] at hyl ⊢
  have HYM := Lib.hid hM
  have HYS := Lib.hid hym
  clear hys hown u1 u2 u3 hM hym
  have CH1 := Lib.hid (fun w' (T' : Tab w') (h : StrSl w' vo xs) => heads_any xs vo vc w' T' h (by rw [HXN.out]; omega) HXM.out)
  have CH2 := Lib.hid (fun w' (T' : Tab w') (h : StrSl w' uo ys) => heads_any ys uo uc w' T' h (by rw [HYM.out]; omega) HYS.out)
  have CS := Lib.hid (fun w' (h : StrSl w' vo xs) (h' : StrSl w' uo ys) => Same_any xs ys vo uo vc uc w' h h' (by rw [HXN.out]; omega) (by rw [HYM.out]; omega))
  have HO1 := Lib.hid (show (outZ xs.reverse).length = N by rw [outZ_length, List.length_reverse, HXN.out])
  have HO2 := Lib.hid (show (outZ ys.reverse).length = M by rw [outZ_length, List.length_reverse, HYM.out])
  have CC := Lib.hid (fun g g2 c c2 w' (T' : Tab w') (h : StrSl w' g (outZ xs.reverse)) (h' : StrSl w' g2 (outZ ys.reverse)) => collide_any (outZ xs.reverse) (outZ ys.reverse) g g2 c c2 w' T' h h' (by rw [HO1.out]; omega) (by rw [HO2.out]; omega)
    (fun x hx => by have := outZ_small xs.reverse (fun x h => HXM.out x (by simpa using h)) x hx; omega) (fun x hx => by have := outZ_small ys.reverse (fun x h => HYS.out x (by simpa using h)) x hx; omega))
  rw [HO1.out, HO2.out] at CC
  rw [HXN.out] at CH1 CS
  rw [HYM.out] at CH2 CS
  have hh1 := hdZ_size xs.reverse
  have hh2 := hdZ_size ys.reverse
  by_cases hs : xs = ys
  · subst hs
    obtain rfl : N = M := by rw [← HXN.out, ← HYM.out]
    generalize hdZ xs.reverse = V at *
    generalize outZ xs.reverse = OA at *
    rw [decide_eq_true rfl] at CS
    go_wp2_with fail
    with_reducible refine Calls.mono (CH1.out _ HT.out HX.out) ?_
    rintro e w4 ⟨p1, q1, rfl, _, _, hb⟩
    replace HT := Lib.hid (HT.out.next hb)
    replace HX := Lib.hid (HX.out.next hb)
    replace HY := Lib.hid (HY.out.next hb)
    replace BB := Lib.hid (Below.andThen BB.out hb)
    clear hb
    go_wp2_with fail
    with_reducible refine Calls.mono (CH2.out _ HT.out HY.out) ?_
    rintro e w5 ⟨p2, q2, rfl, _, _, hb⟩
    replace HT := Lib.hid (HT.out.next hb)
    replace HX := Lib.hid (HX.out.next hb)
    replace HY := Lib.hid (HY.out.next hb)
    replace BB := Lib.hid (Below.andThen BB.out hb)
    clear hb
    go_wp2_with fail
    with_reducible refine Calls.mono (CS.out _ HX.out HY.out) ?_
    rintro e w6 ⟨rfl, hb⟩
    replace HT := Lib.hid (HT.out.next hb)
    replace HX := Lib.hid (HX.out.next hb)
    replace HY := Lib.hid (HY.out.next hb)
    replace BB := Lib.hid (Below.andThen BB.out hb)
    clear hb
    go_wp2_with fail
    go_ret
    exact ⟨rfl, BB.out⟩
  · rw [decide_eq_false hs] at CS
    by_cases hv : hdZ xs.reverse = hdZ ys.reverse
    · have HCOL := Lib.hid (chain_collide xs.reverse ys.reverse hv)
      rw [← hv] at CH2
      clear hv hh2
      generalize hdZ xs.reverse = V at *
      have hne : xs.reverse ≠ ys.reverse := fun h => hs (List.reverse_inj.1 h)
      have HOS1 := Lib.hid (outZ_small xs.reverse (fun x h => HXM.out x (by simpa using h)))
      have HOS2 := Lib.hid (outZ_small ys.reverse (fun x h => HYS.out x (by simpa using h)))
      have hcol2 : collideS (outZ xs.reverse) (outZ ys.reverse) = true ∨ (M < N ∧ ∃ x, (outZ xs.reverse)[M]? = some x ∧ sumS x = zero32) ∨ (N < M ∧ ∃ x, (outZ ys.reverse)[N]? = some x ∧ sumS x = zero32) := by
        rcases HCOL.out with h | h | h | h
        · exact .inl h
        · exact absurd h hne
        · rw [List.length_reverse, List.length_reverse, HXN.out, HYM.out] at h; exact .inr (.inl h)
        · rw [List.length_reverse, List.length_reverse, HXN.out, HYM.out] at h; exact .inr (.inr h)
      replace HCOL := Lib.hid hcol2
      generalize outZ xs.reverse = OA at *
      generalize outZ ys.reverse = OB at *
      clear hcol2 hne hs
      rcases Nat.lt_trichotomy N M with hlt | rfl | hlt
      · obtain ⟨z, hz⟩ : ∃ z, OB[N]? = some z := ⟨_, List.getElem?_eq_getElem (by rw [HO2.out]; exact hlt)⟩
        have hzs := HOS2.out z (List.mem_of_getElem? hz)
        have HZ := Lib.hid (show collideS OA OB = true ∨ sumS z = zero32 by
          rcases HCOL.out with h | ⟨h, _⟩ | ⟨_, x, hx, hs⟩
          · exact .inl h
          · omega
          · rw [hz] at hx; cases hx; exact .inr hs)
        have CSUM := Lib.hid (fun w' (T' : Tab w') => Sum_any z w' T' (by omega))
        generalize sumS z = SZ at *
        have f0 : ¬ N = M := by omega
        have f1 : decide ((N : Int) = M) = false := by simp; omega
        have f2 : ((N : Int) == M) = false := by simp; omega
        have f3 : ((N : Int) != M) = true := by simp; omega
        have f4 : (N == M) = false := by simp; omega
        have f5 : (N != M) = true := by simp; omega
        have f6 : decide (N = M) = false := by simp; omega
        go_wp2_with fail
        with_reducible refine Calls.mono (CH1.out _ HT.out HX.out) ?_
        rintro e w4 ⟨p1, q1, rfl, _, hA, hb⟩
        replace HT := Lib.hid (HT.out.next hb)
        replace HX := Lib.hid (HX.out.next hb)
        replace HY := Lib.hid (HY.out.next hb)
        replace BB := Lib.hid (Below.andThen BB.out hb)
        have HA := Lib.hid hA; clear hA
        clear hb
        go_wp2_with fail
        with_reducible refine Calls.mono (CH2.out _ HT.out HY.out) ?_
        rintro e w5 ⟨p2, q2, rfl, _, hA2, hb⟩
        replace HT := Lib.hid (HT.out.next hb)
        replace HX := Lib.hid (HX.out.next hb)
        replace HY := Lib.hid (HY.out.next hb)
        replace HA := Lib.hid (HA.out.next hb)
        replace BB := Lib.hid (Below.andThen BB.out hb)
        have HB := Lib.hid hA2; clear hA2
        clear hb
        go_wp2_with fail
        with_reducible refine Calls.mono (CS.out _ HX.out HY.out) ?_
        rintro e w6 ⟨rfl, hb⟩
        replace HT := Lib.hid (HT.out.next hb)
        replace HX := Lib.hid (HX.out.next hb)
        replace HY := Lib.hid (HY.out.next hb)
        replace HA := Lib.hid (HA.out.next hb)
        replace HB := Lib.hid (HB.out.next hb)
        replace BB := Lib.hid (Below.andThen BB.out hb)
        clear hb
        go_wp2_with fail
        rcases HB.out with h | ⟨g, off, rfl, hg, hcg⟩
        · rw [h] at hz; simp at hz
        have hmin : (min (N : Int) M).toNat = N := by omega
        have c1 : w6.cell? ⟨g, off + (min (N : Int) M).toNat, none⟩ = some (.string z) := by rw [hmin]; exact hcg N z hz
        clear hmin
        have c2 : w6.drew.cell? ⟨g, off + (min (N : Int) M).toNat, none⟩ = some (.string z) := c1
        have c3 : ∀ ob, (w6.alloc ob).drew.cell? ⟨g, off + (min (N : Int) M).toNat, none⟩ = some (.string z) := fun ob => (World.cell?_alloc_past ob g (off + (min (N : Int) M).toNat) hg).trans c1
        have hmk := make_zero
        have hcv : ∀ W : World, (convert 43 9 (.slice (some ⟨W.heap.size, 0, none⟩) 32 32)).run Tryd.prog (W.alloc (.cells zeroC 5)) = .ok (.string zero32) (W.alloc (.cells zeroC 5)) := fun W => string_zero (Row.new W 5 zeroC.toList)
        have hcd : ∀ W : World, (convert 43 9 (.slice (some ⟨W.heap.size, 0, none⟩) 32 32)).run Tryd.prog (W.alloc (.cells zeroC 5)).drew = .ok (.string zero32) (W.alloc (.cells zeroC 5)).drew := fun W => string_zero (w := (W.alloc (.cells zeroC 5)).drew) (Row.new W 5 zeroC.toList)
        have hB6 : w6.heap.size ≤ w6.heap.size := Nat.le_refl _
        clear hz hcg hzs
        go_cut [12] (fun v wx => v = .bool (SZ.toList == zero32.toList) ∧ Below w6.heap.size w6 wx)
        case first =>
          have hB0 : Below w6.heap.size w6 w6.drew := (Below.refl _ _).drew
          have hce : (convert 43 9 (.slice (some ⟨w6.heap.size, 0, none⟩) 32 32)).run Tryd.prog (w6.drew.alloc (.cells zeroC 5)) = .ok (.string zero32) (w6.drew.alloc (.cells zeroC 5)) := string_zero (Row.new w6.drew 5 zeroC.toList)
          have hB1 : Below w6.heap.size w6 (w6.alloc (.cells zeroC 5)).drew := (below_more (Below.refl _ _) _).drew
          have b0 : (0 : Int) ≤ min (N : Int) M := by omega
          have b1 : min (N : Int) M < (M : Int) := by omega
          rw [show Op.convert 43 9 (Operand.tmp 76) = convZ from rfl]
          go_region_held3 (fun w' => Below w6.heap.size w6 w' ∧ w'.cell? ⟨g, off + (min (N : Int) M).toNat, none⟩ = some (.string z)) (first | (constructor <;> first | assumption | exact below_more (by assumption) _ | go_keep) | go_keep) (first | (go_at_call 13; with_reducible refine Calls.mono (CSUM.out _ (HT.out.next (by assumption))) ?_; rintro e wx ⟨rfl, hb⟩; have hbx : Below w6.heap.size w6 wx := Below.andThen (by assumption) hb; have hcx := (hbx.cell (p := ⟨g, off + (min (N : Int) M).toNat, none⟩) hg).trans c1; first | (have hzz := string_zero ((row_zero w6).next hb)) | skip))
          all_goals (go_simp; go_wp2_with fail; go_meet; exact ⟨rfl, by first | assumption | exact below_more (by assumption) _⟩)
        obtain ⟨rfl, hb⟩ := hcut
        replace HT := Lib.hid (HT.out.next hb)
        replace HA := Lib.hid (HA.out.next hb)
        replace HB := Lib.hid (HB.out.next hb)
        replace BB := Lib.hid (Below.andThen BB.out hb)
        clear hb c1 c2 c3 hmk hcv hcd hg
        by_cases hc : collideS OA OB = true
        · rw [hc] at CC
          go_wp2_with fail
          with_reducible refine Calls.mono (CC.out _ _ _ _ _ HT.out HA.out HB.out) ?_
          rintro e w8 ⟨rfl, hb⟩
          replace HT := Lib.hid (HT.out.next hb)
          replace BB := Lib.hid (Below.andThen BB.out hb)
          clear hb
          go_wp2_with fail
          go_ret
          exact ⟨rfl, BB.out⟩
        · have hzz : (SZ.toList == zero32.toList) = true := by
            rcases HZ.out with h | h
            · exact absurd h hc
            · rw [bytes_beq]; simpa using h
          have hc2 : collideS OA OB = false := by simpa using hc
          rw [hc2] at CC
          clear hc hc2
          go_wp2_with fail
          with_reducible refine Calls.mono (CC.out _ _ _ _ _ HT.out HA.out HB.out) ?_
          rintro e w8 ⟨rfl, hb⟩
          replace HT := Lib.hid (HT.out.next hb)
          replace BB := Lib.hid (Below.andThen BB.out hb)
          clear hb
          go_wp2_with fail
          go_ret
          exact ⟨rfl, BB.out⟩
      · have HC1 := Lib.hid (show collideS OA OB = true by
          rcases HCOL.out with h | ⟨h, _⟩ | ⟨h, _⟩
          · exact h
          · omega
          · omega)
        rw [HC1.out] at CC
        go_wp2_with fail
        with_reducible refine Calls.mono (CH1.out _ HT.out HX.out) ?_
        rintro e w4 ⟨p1, q1, rfl, _, hA, hb⟩
        replace HT := Lib.hid (HT.out.next hb)
        replace HX := Lib.hid (HX.out.next hb)
        replace HY := Lib.hid (HY.out.next hb)
        replace BB := Lib.hid (Below.andThen BB.out hb)
        have HA := Lib.hid hA; clear hA
        clear hb
        go_wp2_with fail
        with_reducible refine Calls.mono (CH2.out _ HT.out HY.out) ?_
        rintro e w5 ⟨p2, q2, rfl, _, hA2, hb⟩
        replace HT := Lib.hid (HT.out.next hb)
        replace HX := Lib.hid (HX.out.next hb)
        replace HY := Lib.hid (HY.out.next hb)
        replace HA := Lib.hid (HA.out.next hb)
        replace BB := Lib.hid (Below.andThen BB.out hb)
        have HB := Lib.hid hA2; clear hA2
        clear hb
        go_wp2_with fail
        with_reducible refine Calls.mono (CS.out _ HX.out HY.out) ?_
        rintro e w6 ⟨rfl, hb⟩
        replace HT := Lib.hid (HT.out.next hb)
        replace HX := Lib.hid (HX.out.next hb)
        replace HY := Lib.hid (HY.out.next hb)
        replace HA := Lib.hid (HA.out.next hb)
        replace HB := Lib.hid (HB.out.next hb)
        replace BB := Lib.hid (Below.andThen BB.out hb)
        clear hb
        go_wp2_with fail
        refine wp_region_kin (by kernel_rfl) (by kernel_rfl) w6.heap.size 0 (by simp) (fun hk => ?_)
        repeat (go_big_quiet_step (fail))
        refine wpQuiet_nil ?_
        clear hk
        intro w7 hb
        replace HT := Lib.hid (HT.out.next hb)
        replace HA := Lib.hid (HA.out.next hb)
        replace HB := Lib.hid (HB.out.next hb)
        replace BB := Lib.hid (Below.andThen BB.out hb)
        clear hb
        go_wp2_with fail
        with_reducible refine Calls.mono (CC.out _ _ _ _ _ HT.out HA.out HB.out) ?_
        rintro e w8 ⟨rfl, hb⟩
        replace HT := Lib.hid (HT.out.next hb)
        replace BB := Lib.hid (Below.andThen BB.out hb)
        clear hb
        go_wp2_with fail
        go_ret
        exact ⟨rfl, BB.out⟩
      · obtain ⟨z, hz⟩ : ∃ z, OA[M]? = some z := ⟨_, List.getElem?_eq_getElem (by rw [HO1.out]; exact hlt)⟩
        have hzs := HOS1.out z (List.mem_of_getElem? hz)
        have HZ := Lib.hid (show collideS OA OB = true ∨ sumS z = zero32 by
          rcases HCOL.out with h | ⟨_, x, hx, hs⟩ | ⟨h, _⟩
          · exact .inl h
          · rw [hz] at hx; cases hx; exact .inr hs
          · omega)
        have CSUM := Lib.hid (fun w' (T' : Tab w') => Sum_any z w' T' (by omega))
        generalize sumS z = SZ at *
        have f0 : ¬ N = M := by omega
        have f1 : decide ((N : Int) = M) = false := by simp; omega
        have f2 : ((N : Int) == M) = false := by simp; omega
        have f3 : ((N : Int) != M) = true := by simp; omega
        have f4 : (N == M) = false := by simp; omega
        have f5 : (N != M) = true := by simp; omega
        have f6 : decide (N = M) = false := by simp; omega
        go_wp2_with fail
        with_reducible refine Calls.mono (CH1.out _ HT.out HX.out) ?_
        rintro e w4 ⟨p1, q1, rfl, _, hA, hb⟩
        replace HT := Lib.hid (HT.out.next hb)
        replace HX := Lib.hid (HX.out.next hb)
        replace HY := Lib.hid (HY.out.next hb)
        replace BB := Lib.hid (Below.andThen BB.out hb)
        have HA := Lib.hid hA; clear hA
        clear hb
        go_wp2_with fail
        with_reducible refine Calls.mono (CH2.out _ HT.out HY.out) ?_
        rintro e w5 ⟨p2, q2, rfl, _, hA2, hb⟩
        replace HT := Lib.hid (HT.out.next hb)
        replace HX := Lib.hid (HX.out.next hb)
        replace HY := Lib.hid (HY.out.next hb)
        replace HA := Lib.hid (HA.out.next hb)
        replace BB := Lib.hid (Below.andThen BB.out hb)
        have HB := Lib.hid hA2; clear hA2
        clear hb
        go_wp2_with fail
        with_reducible refine Calls.mono (CS.out _ HX.out HY.out) ?_
        rintro e w6 ⟨rfl, hb⟩
        replace HT := Lib.hid (HT.out.next hb)
        replace HX := Lib.hid (HX.out.next hb)
        replace HY := Lib.hid (HY.out.next hb)
        replace HA := Lib.hid (HA.out.next hb)
        replace HB := Lib.hid (HB.out.next hb)
        replace BB := Lib.hid (Below.andThen BB.out hb)
        clear hb
        go_wp2_with fail
        rcases HA.out with h | ⟨g, off, rfl, hg, hcg⟩
        · rw [h] at hz; simp at hz
        have hmin : (min (N : Int) M).toNat = M := by omega
        have c1 : w6.cell? ⟨g, off + (min (N : Int) M).toNat, none⟩ = some (.string z) := by rw [hmin]; exact hcg M z hz
        clear hmin
        have c2 : w6.drew.cell? ⟨g, off + (min (N : Int) M).toNat, none⟩ = some (.string z) := c1
        have c3 : ∀ ob, (w6.alloc ob).drew.cell? ⟨g, off + (min (N : Int) M).toNat, none⟩ = some (.string z) := fun ob => (World.cell?_alloc_past ob g (off + (min (N : Int) M).toNat) hg).trans c1
        have hmk := make_zero
        have hcv : ∀ W : World, (convert 43 9 (.slice (some ⟨W.heap.size, 0, none⟩) 32 32)).run Tryd.prog (W.alloc (.cells zeroC 5)) = .ok (.string zero32) (W.alloc (.cells zeroC 5)) := fun W => string_zero (Row.new W 5 zeroC.toList)
        have hcd : ∀ W : World, (convert 43 9 (.slice (some ⟨W.heap.size, 0, none⟩) 32 32)).run Tryd.prog (W.alloc (.cells zeroC 5)).drew = .ok (.string zero32) (W.alloc (.cells zeroC 5)).drew := fun W => string_zero (w := (W.alloc (.cells zeroC 5)).drew) (Row.new W 5 zeroC.toList)
        have hB6 : w6.heap.size ≤ w6.heap.size := Nat.le_refl _
        clear hz hcg hzs
        go_cut [12] (fun v wx => v = .bool (SZ.toList == zero32.toList) ∧ Below w6.heap.size w6 wx)
        case first =>
          have hB0 : Below w6.heap.size w6 w6.drew := (Below.refl _ _).drew
          have hce : (convert 43 9 (.slice (some ⟨w6.heap.size, 0, none⟩) 32 32)).run Tryd.prog (w6.drew.alloc (.cells zeroC 5)) = .ok (.string zero32) (w6.drew.alloc (.cells zeroC 5)) := string_zero (Row.new w6.drew 5 zeroC.toList)
          have hB1 : Below w6.heap.size w6 (w6.alloc (.cells zeroC 5)).drew := (below_more (Below.refl _ _) _).drew
          have b0 : (0 : Int) ≤ min (N : Int) M := by omega
          have b1 : min (N : Int) M < (N : Int) := by omega
          rw [show Op.convert 43 9 (Operand.tmp 76) = convZ from rfl]
          go_region_held3 (fun w' => Below w6.heap.size w6 w' ∧ w'.cell? ⟨g, off + (min (N : Int) M).toNat, none⟩ = some (.string z)) (first | (constructor <;> first | assumption | exact below_more (by assumption) _ | go_keep) | go_keep) (first | (go_at_call 13; with_reducible refine Calls.mono (CSUM.out _ (HT.out.next (by assumption))) ?_; rintro e wx ⟨rfl, hb⟩; have hbx : Below w6.heap.size w6 wx := Below.andThen (by assumption) hb; have hcx := (hbx.cell (p := ⟨g, off + (min (N : Int) M).toNat, none⟩) hg).trans c1; first | (have hzz := string_zero ((row_zero w6).next hb)) | skip))
          all_goals (go_simp; go_wp2_with fail; go_meet; exact ⟨rfl, by first | assumption | exact below_more (by assumption) _⟩)
        obtain ⟨rfl, hb⟩ := hcut
        replace HT := Lib.hid (HT.out.next hb)
        replace HA := Lib.hid (HA.out.next hb)
        replace HB := Lib.hid (HB.out.next hb)
        replace BB := Lib.hid (Below.andThen BB.out hb)
        clear hb c1 c2 c3 hmk hcv hcd hg
        by_cases hc : collideS OA OB = true
        · rw [hc] at CC
          go_wp2_with fail
          with_reducible refine Calls.mono (CC.out _ _ _ _ _ HT.out HA.out HB.out) ?_
          rintro e w8 ⟨rfl, hb⟩
          replace HT := Lib.hid (HT.out.next hb)
          replace BB := Lib.hid (Below.andThen BB.out hb)
          clear hb
          go_wp2_with fail
          go_ret
          exact ⟨rfl, BB.out⟩
        · have hzz : (SZ.toList == zero32.toList) = true := by
            rcases HZ.out with h | h
            · exact absurd h hc
            · rw [bytes_beq]; simpa using h
          have hc2 : collideS OA OB = false := by simpa using hc
          rw [hc2] at CC
          clear hc hc2
          go_wp2_with fail
          with_reducible refine Calls.mono (CC.out _ _ _ _ _ HT.out HA.out HB.out) ?_
          rintro e w8 ⟨rfl, hb⟩
          replace HT := Lib.hid (HT.out.next hb)
          replace BB := Lib.hid (Below.andThen BB.out hb)
          clear hb
          go_wp2_with fail
          go_ret
          exact ⟨rfl, BB.out⟩
    · have e1 : ((hdZ xs.reverse).toList == (hdZ ys.reverse).toList) = false := by rw [bytes_beq]; simpa using hv
      generalize hdZ xs.reverse = V at *
      generalize hdZ ys.reverse = U at *
      generalize outZ xs.reverse = OA at *
      generalize outZ ys.reverse = OB at *
      go_wp2_with fail
      with_reducible refine Calls.mono (CH1.out _ HT.out HX.out) ?_
      rintro e w4 ⟨p1, q1, rfl, _, _, hb⟩
      replace HT := Lib.hid (HT.out.next hb)
      replace HX := Lib.hid (HX.out.next hb)
      replace HY := Lib.hid (HY.out.next hb)
      replace BB := Lib.hid (Below.andThen BB.out hb)
      clear hb
      go_wp2_with fail
      with_reducible refine Calls.mono (CH2.out _ HT.out HY.out) ?_
      rintro e w5 ⟨p2, q2, rfl, _, _, hb⟩
      replace HT := Lib.hid (HT.out.next hb)
      replace HX := Lib.hid (HX.out.next hb)
      replace HY := Lib.hid (HY.out.next hb)
      replace BB := Lib.hid (Below.andThen BB.out hb)
      clear hb
      go_wp2_with fail
      with_reducible refine Calls.mono (CS.out _ HX.out HY.out) ?_
      rintro e w6 ⟨rfl, hb⟩
      replace HT := Lib.hid (HT.out.next hb)
      replace HX := Lib.hid (HX.out.next hb)
      replace HY := Lib.hid (HY.out.next hb)
      replace BB := Lib.hid (Below.andThen BB.out hb)
      clear hb
      go_wp2_with fail
      go_ret
      exact ⟨rfl, BB.out⟩

theorem digestChain_law (o : Option Addr) (pn pc : Nat) (S : Nat → ByteArray) (o' : Option Addr) (qn qc : Nat) (S' : Nat → ByteArray) (w : World) (T : Tab w)
    (hpn : pn ≤ maxLen) (hps : ∀ i, i < pn → (S i).size ≤ maxLen) (hpc : ∀ i, i < pn → ∃ a, o = some a ∧ ∀ w', Below w.heap.size w w' → w'.cell? (a.add i) = some (.string (S i)))
    (hqn : qn ≤ maxLen) (hqs : ∀ i, i < qn → (S' i).size ≤ maxLen) (hqc : ∀ i, i < qn → ∃ a, o' = some a ∧ ∀ w', Below w.heap.size w w' → w'.cell? (a.add i) = some (.string (S' i))) :
    Calls Tryd.prog 9 #[.slice o pn pc, .slice o' qn qc] w fun r w' => r = .returned (.bool true) ∧ Below w.heap.size w w' := digestChain_all o pn pc S o' qn qc S' w T hpn hps hpc hqn hqs hqc
namespace digestChainBinding
set_option maxRecDepth 100000 in
theorem contract (H : Type) (enc : TypeId × Value → H) (W : World) (base : Nat) (args : Array Value) (ds gs : List (DataW H)) (before : List MemPlace)
    (hval : ∀ (j : Nat) t v, Tryd.f9.params[j]? = some t → args[j]? = some v → Value.okWide Tryd.prog W .any base t v)
    (hW : DataW.Whole enc Tryd.prog Tryd.f9.params.toList Rows.digestChainBindingSpec.vars false W args.toList ds gs before) (hL : laidMetH Tryd.prog Rows.digestChainBindingRow.laid W) :
    Calls Tryd.prog 9 args W fun e W' => ∃ v, e = .returned v ∧ Rows.digestChainBindingSpec.post enc Tryd.prog Tryd.f9 false true false false W args v W' := by
  have hW' := hW
  obtain ⟨p, q, hA0, hV, rfl, hfz, hnd⟩ := hW
  have hA : DataW.TrodAll enc Tryd.prog W 0 (fun _ => true) true Tryd.f9.params.toList args.toList ds p := hA0
  rw [Tryd.params9] at hA hval
  obtain ⟨v0, vs0, d0, ds0, p0, q0, hargs, rfl, rfl, h0, r0⟩ := trodAll_cons hA
  obtain ⟨v1, vs1, d1, ds1, p1, q1, rfl, rfl, rfl, h1, r1⟩ := trodAll_cons r0
  obtain ⟨rfl, rfl, rfl⟩ := trodAll_nil r1
  obtain rfl : args = #[v0, v1] := by cases args; simp_all
  obtain ⟨oa0, la0, ca0, a0, rfl, ma0, k0, ga0⟩ := open_strS Tryd.underlying26 Tryd.underlying9 (by kernel_rfl) (hval 0 _ _ rfl rfl) h0
  obtain ⟨oa1, la1, ca1, a1, rfl, ma1, k1, ga1⟩ := open_strS Tryd.underlying26 Tryd.underlying9 (by kernel_rfl) (hval 1 _ _ rfl rfl) h1
  refine (digestChain_law oa0 la0 ca0 a0 oa1 la1 ca1 a1 W (tab hL) ma0 k0 ga0 ma1 k1 ga1).mono fun e W' ⟨he, hb⟩ => ?_
  subst he
  obtain ⟨rfl, _⟩ := trodVars_none hV
  exact ⟨_, rfl, law_post laidOut (by kernel_rfl) rfl (by kernel_rfl) Tryd.underlying4 hW' rfl hb⟩

def args0 : Array Value := #[.slice none 0 0, .slice none 0 0]
theorem laid_met (os : Os) : laidMet Tryd.prog Rows.digestChainBindingRow.laid ((laidWorld os).forCall (fun _ _ => 0) ⟨#[], args0, []⟩).memory :=
  laidMet_of_run' 8 (by kernel_rfl) (by kernel_rfl)
theorem reads (os : Os) {H : Type} (enc : TypeId × Value → H) : ∃ places, DataW.whole enc Tryd.prog ((laidWorld os).forCall (fun _ _ => 0) ⟨#[], args0, []⟩).memory Tryd.f9.params.toList Rows.digestChainBindingSpec.vars false args0.toList 8 = some ([.nil, .nil], [], places) :=
  ⟨[], by kernel_rfl⟩

set_option maxRecDepth 100000 in
theorem lifted (os : Os) (started : os.Started) (H : Type) (enc : TypeId × Value → H) (F : Stop.Interp) :
    ReturnsInHanded {} Tryd.checked os 9 .any ((OpenSpec.ofChange Rows.digestChainBindingSpec).preRow enc Tryd.prog Tryd.f9 Rows.digestChainBindingRow.domain false Rows.digestChainBindingRow.laid) (((OpenSpec.ofChange Rows.digestChainBindingSpec).at F).post enc Tryd.prog Tryd.f9 false true false false) := by
  obtain ⟨places, hx⟩ := reads os enc
  refine returnsInHanded_of_row (C := Tryd.checked) (s := OpenSpec.ofChange Rows.digestChainBindingSpec) own started (by kernel_rfl) Tryd.func9
    (witness_row_at (enc := enc) (C := Tryd.checked) false (laidWorld os) args0 rfl (by kernel_rfl) (by kernel_rfl) (by kernel_rfl)
      (OpenSpec.preRow_of_cond 8 hx (by kernel_rfl) (fun k hk => by cases hk) (by kernel_rfl) (laid_met os))) ?_
  intro W base args ds gs before hval hW _ _ _ hL _ _
  exact contract H enc W base args ds gs before hval hW hL

theorem said : Rows.DigestChainBindingSaid :=
  OpenClaim.holds_of_cond 9 Tryd.f9 rfl rfl rfl rfl rfl rfl rfl ⟨rfl, rfl, rfl, rfl, rfl⟩ rfl rfl rfl rfl rfl (by kernel_rfl) Tryd.func9 (by kernel_rfl)
    (of_decide_eq_true (by kernel_rfl)) (by unfold Func.isWrapper; first | (rw [if_pos (by decide +kernel)]; kernel_rfl) | (rw [if_neg (by decide +kernel)]; exact ⟨rfl, rfl⟩))
    (fun os started H enc _ F => by rw [OpenClaim.pre_eq_preRow]; exact lifted os started H enc F)

theorem plain (f : FuncId) (fn : Func) (hf : Tryd.pinned.checked.prog.funcNamed "newswire/newswirelaw02.DigestChainBinding" = some f) (hfn : Tryd.pinned.checked.prog.funcs[f]? = some fn) :
    false = Tryd.pinned.checked.prog.looks [] ∧ ∀ (j : Nat) t, fn.params[j]? = some t → Tryd.pinned.checked.prog.wantsStandIn t = false := by
  obtain rfl : f = 9 := Option.some.inj ((show Tryd.prog.funcNamed "newswire/newswirelaw02.DigestChainBinding" = some 9 by kernel_rfl).symm.trans hf) |>.symm
  obtain rfl : fn = Tryd.f9 := (Option.some.inj (Tryd.func9.symm.trans hfn)).symm
  refine ⟨by kernel_rfl, fun j t ht => ?_⟩
  have all : (Tryd.f9.params.toList.all fun t => Tryd.prog.wantsStandIn t == false) = true := by kernel_rfl
  have := List.all_eq_true.1 all t (by rw [← Array.mem_def]; exact Array.mem_of_getElem? ht)
  exact (show Tryd.prog.wantsStandIn t = false by simpa using this)

/-- The statement. -/
theorem card : Rows.DigestChainBindingCardSaid :=
  Claim7.holds_tied_plain_at .later [] _ _ _ _ said (fun _ h => by cases h) (by kernel_rfl) (fun _ h => by cases h) digestChainBinding_row_tie rfl ⟨rfl, rfl⟩ (by kernel_rfl) rfl plain (by kernel_rfl)
end digestChainBinding
end Go.Proofs.YtojfblkmhdgjeaaDoor
