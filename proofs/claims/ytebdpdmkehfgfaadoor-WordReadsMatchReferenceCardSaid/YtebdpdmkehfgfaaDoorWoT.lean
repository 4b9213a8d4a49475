/- Prefix. -/
import Derived.Test.YtebdpdmkehfgfaaDoorWoS
set_option linter.unusedVariables false
set_option linter.unusedSimpArgs false
namespace Go.Proofs.YtebdpdmkehfgfaaDoor
open Go.RowKit
namespace Wo
def pO (L : Int) (l : List B) (at0 : Int) : Option (Nat × Nat) := if okL L ∧ 0 ≤ at0 ∧ at0 < l.length then pre (L - 1).toNat l at0.toNat else none
def preV : Option (Nat × Nat) → Value
  | some (m, j) => .tuple #[.int .i64 m, .int .i64 j, .bool true]
  | none => .tuple #[.int .i64 0, .int .i64 0, .bool false]
theorem Ws.takeLe {w : World} {o : Option Addr} {n c : Nat} {l : List B} (h : Ws w o n c l) {i : Nat} (h0 : 0 < i) (hi : i ≤ n) : Ws w o i c (l.take i) := by
  rcases Nat.lt_or_eq_of_le hi with h1 | rfl
  · exact h.take h0 h1
  · rw [List.take_of_length_le (by rw [h.len]; exact Nat.le_refl _)]
    exact h
theorem tong_form (k : Nat) : ∃ a b c : FuncId, tongV k = .agg #[fnV a, fnV b, fnV c] := match k with
  | 0 => ⟨_, _, _, rfl⟩
  | 1 => ⟨_, _, _, rfl⟩
  | _ + 2 => ⟨_, _, _, rfl⟩
theorem run_step {k c : Nat} {l : List B} {s : B} (h : l.head? = some s) : run k (c + 1) l = if isW k s then run k c (l.drop 1) + 1 else 0 := by
  cases l with
  | nil => cases h
  | cons a r => cases h; rfl
theorem run_nil (k c : Nat) : run k c [] = 0 := by cases c <;> rfl
theorem Prefix_no (L at0 : Int) (o : Option Addr) (n c : Nat) (w : World) (hn : n ≤ 1000000) (h : ¬ (okL L ∧ 0 ≤ at0 ∧ at0 < n)) :
    Calls Tryd.prog 28 #[.int .i64 L, .slice o n c, .int .i64 at0] w fun e w' => e = .returned (.tuple #[.int .i64 0, .int .i64 0, .bool false]) ∧ Below w.heap.size w w' := by
  by_cases hl : okL L
  · have CL := Lib.hid (lang_yes hl w)
    by_cases h0 : at0 < 0
    · clear h hl
      go_enter Tryd.func28, Tryd.ntmps28
      go_wp2_with fail
      with_reducible refine Calls.mono CL.out ?_
      rintro e w' ⟨rfl, rfl⟩
      go_wp2_with fail
      go_ret3
      exact ⟨rfl, Below.refl _ _⟩
    · have h1 : (n : Int) ≤ at0 := Int.not_lt.1 fun h2 => h ⟨hl, by omega, h2⟩
      clear h hl
      go_enter Tryd.func28, Tryd.ntmps28
      go_wp2_with fail
      with_reducible refine Calls.mono CL.out ?_
      rintro e w' ⟨rfl, rfl⟩
      go_wp2_with fail
      go_ret3
      exact ⟨rfl, Below.refl _ _⟩
  · have CL := Lib.hid (lang_no hl w)
    clear h hl
    go_enter Tryd.func28, Tryd.ntmps28
    go_wp2_with fail
    with_reducible refine Calls.mono CL.out ?_
    rintro e w' ⟨rfl, rfl⟩
    go_wp2_with fail
    go_ret3
    exact ⟨rfl, Below.refl _ _⟩
set_option maxRecDepth 100000 in
set_option maxHeartbeats 4000000 in
theorem Prefix_yes (k a : Nat) (hk : k < 3) (L : Int) (hL : L = k + 1) (b off n c : Nat) (l : List B) (w : World) (T : Tab w) (ha : a < n) (H : Ws w (some ⟨b, off, none⟩) n c l) :
    Calls Tryd.prog 28 #[.int .i64 L, .slice (some ⟨b, off, none⟩) n c, .int .i64 a] w fun e w' => e = .returned (preV (pre k l a)) ∧ Below w.heap.size w w' := by
  have HT := Lib.hid T
  have HS := Lib.hid H
  have BB := Lib.hid (Below.refl w.heap.size w)
  have CL := Lib.hid (lang_yes (L := L) (by unfold okL; omega) w)
  have CO := Lib.hid (of_any k L hk hL w)
  have CI := Lib.hid (fun (j : Nat) (hj : j < n) W (T : Tab W) => is_any k hk (l.getD j []) (H.small _ (by
    rw [List.getD_eq_getElem?_getD, List.getElem?_eq_getElem (by rw [H.len]; exact hj), Option.getD_some]
    exact List.getElem_mem _)) W T)
  have CN := Lib.hid (fun (j : Nat) (hj0 : 0 < j) (hj : a + j ≤ n) W (T : Tab W) (HH : Ws W (some ⟨b, off, none⟩) n c l) => (fun (HX : Ws W (some ⟨b, off + a, none⟩) j (c - a) ((l.drop a).take j)) => number_any k hk (some ⟨b, off + a, none⟩) j (c - a) ((l.drop a).take j) W T HX.len HX.nle HX.cap HX.big HX.small HX.sl) ((HH.drop ha).takeLe hj0 (by omega)))
  obtain ⟨a0, a1, a2, hag⟩ := tong_form k
  rw [hag] at CO CI CN
  have hlen := H.len
  have hnle := H.nle
  have hcap := H.cap
  have hbig := H.big
  have hbl : b < w.heap.size := by
    obtain ⟨b', off', e, h, _⟩ := H.sl.cells H.ne
    cases e
    exact h
  have HBL := Lib.hid hbl
  have HDP := Lib.hid (show pre k l a = best k (l.drop a) (run k 9 (l.drop a)) from rfl)
  generalize pre k l a = D at *
  clear T H hag hL
  go_enter Tryd.func28, Tryd.ntmps28
  go_wp2_with fail
  with_reducible refine Calls.mono CL.out ?_
  rintro e w' ⟨rfl, rfl⟩
  go_wp2_with fail
  with_reducible refine Calls.mono (CO.out) ?_
  rintro e w2 ⟨rfl, hb⟩
  replace HT := Lib.hid (HT.out.next hb)
  replace HS := Lib.hid (HS.out.next hb)
  replace BB := Lib.hid (Below.andThen BB.out hb)
  clear hb
  go_upto_region 4 with (fail)
  refine wp_named fun v2 hq => ?_
  obtain ⟨bR, ebR⟩ : ∃ b, b = w2.heap.size := ⟨_, rfl⟩
  have HR := Lib.hid (show Row v2 bR 55 [fnV a0, fnV a1, fnV a2] from by rw [hq, ebR]; exact Row.new _ _ _)
  have hb : Below w2.heap.size w2 v2 := by rw [hq]; exact (Below.refl _ _).alloc (Nat.le_refl _) _
  replace HT := Lib.hid (HT.out.next hb)
  replace HS := Lib.hid (HS.out.next hb)
  replace BB := Lib.hid (Below.andThen BB.out hb)
  rw [← ebR]
  clear hq hb ebR
  obtain ⟨q0, q1, q2⟩ := HR.out.three
  have lr := HR.out.lt
  have HLN := Lib.hid hlen
  have HCL := Lib.hid (fun W (hS : Ws W (some ⟨b, off, none⟩) n c l) j (hj : j < n) => (show W.cell? ⟨b, off + j, none⟩ = some (sV (l.getD j [])) from by
    obtain ⟨b', off', e, _, hc⟩ := hS.sl.cells hS.ne
    cases e
    exact hc j _ (getD_get (by rw [hS.len]; exact hj))))
  clear hlen hbl q0 q1 q2 lr
  go_wp2_with fail
  go_loopw [10] (fun mv wr => ∃ m : Nat, mv = .int .i64 m ∧ m ≤ 9 ∧ a + m ≤ n ∧ run k 9 (l.drop a) = m + run k (9 - m) (l.drop (a + m)) ∧ Below v2.heap.size v2 wr) (fun mv _ => 9 - (intOf mv).toNat)
  case atStart => exact ⟨0, rfl, Nat.zero_le _, by omega, by simp, Below.refl _ _⟩
  case round =>
    obtain ⟨m, rfl, hm9, ham, hrun, hB⟩ := hrel
    have HTr := Lib.hid (HT.out.next hB)
    have HSr := Lib.hid (HS.out.next hB)
    have HRr := Lib.hid (HR.out.next hB)
    have HBr := Lib.hid hB
    have HRUN := Lib.hid hrun
    have HBL2 := Lib.hid (Nat.lt_of_lt_of_le HBL.out (Below.andThen BB.out hB).size)
    clear hB hrun
    obtain ⟨G, hG⟩ : ∃ G, (decide (a + m < n) && (decide (m < 9) && isW k (l.getD (a + m) []))) = G := ⟨_, rfl⟩
    have HG := Lib.hid hG
    clear hG
    go_upto_region 5 with (fail)
    go_cut [48] (fun v wx => v = .bool G ∧ Below wr.heap.size wr wx)
    case first =>
      obtain ⟨q0, q1, q2⟩ := HRr.out.three
      have lr := HRr.out.lt
      by_cases h1 : a + m < n
      · have d1 : ((a : Int) + m < n) := by omega
        by_cases h2 : m < 9
        · have d2 : ((m : Int) < 9) := by omega
          have cb := HCL.out wr HSr.out (a + m) h1
          have hbl := HBL2.out
          have hi : ((a + m : Nat) : Int) = a + m := by omega
          rw [decide_eq_true h1, decide_eq_true h2, Bool.true_and, Bool.true_and] at HG
          generalize hx : l.getD (a + m) [] = x at *
          have CIx := Lib.hid (fun W T => CI.out (a + m) h1 W T)
          rw [hx] at CIx
          clear hx
          generalize isW k x = R at *
          refine wp_region_kin (by kernel_rfl) (by kernel_rfl) wr.heap.size 0 (by simp) (fun hk => ?_)
          repeat (go_big_quiet_step ((go_at_call 43; with_reducible exact Calls.kin (CIx.out _ (HTr.out.next (Kin.below _))))))
          refine wpQuiet_nil ?_
          clear hk
          intro w5 hb
          have HB := Lib.hid hb
          clear hb
          go_wp2_with fail
          go_meet
          exact ⟨congrArg Value.bool HG.out, HB.out⟩
        · have d2 : ¬ ((m : Int) < 9) := by omega
          rw [decide_eq_true h1, decide_eq_false h2, Bool.false_and, Bool.and_false] at HG
          refine wp_region_kin (by kernel_rfl) (by kernel_rfl) wr.heap.size 0 (by simp) (fun hk => ?_)
          repeat (go_big_quiet_step (fail))
          refine wpQuiet_nil ?_
          clear hk
          intro w5 hb
          have HB := Lib.hid hb
          clear hb
          go_wp2_with fail
          go_meet
          exact ⟨congrArg Value.bool HG.out, HB.out⟩
      · have d1 : ¬ ((a : Int) + m < n) := by omega
        rw [decide_eq_false h1, Bool.false_and] at HG
        refine wp_region_kin (by kernel_rfl) (by kernel_rfl) wr.heap.size 0 (by simp) (fun hk => ?_)
        repeat (go_big_quiet_step (fail))
        refine wpQuiet_nil ?_
        clear hk
        intro w5 hb
        have HB := Lib.hid hb
        clear hb
        go_wp2_with fail
        go_meet
        exact ⟨congrArg Value.bool HG.out, HB.out⟩
    obtain ⟨rfl, hb⟩ := hcut
    have HBc := Lib.hid (Below.andThen HBr.out hb)
    have HTs := Lib.hid (HTr.out.next hb)
    have HSs := Lib.hid (HSr.out.next hb)
    have HRs := Lib.hid (HRr.out.next hb)
    clear hb HTr HSr HRr HBr
    cases G with
    | true =>
      have hG := HG.out
      rw [Bool.and_eq_true, Bool.and_eq_true, decide_eq_true_eq, decide_eq_true_eq] at hG
      obtain ⟨h1, h2, h3⟩ := hG
      have HR1 := Lib.hid (show run k 9 (l.drop a) = (m + 1) + run k (9 - (m + 1)) (l.drop (a + (m + 1))) from by
        rw [HRUN.out]
        obtain ⟨c9, hc9⟩ : ∃ c9, 9 - m = c9 + 1 := ⟨9 - m - 1, by omega⟩
        rw [hc9, run_step (s := l.getD (a + m) []) (by rw [List.head?_drop]; exact getD_get (by rw [HLN.out]; exact h1)), h3, if_pos rfl, List.drop_drop, show 9 - (m + 1) = c9 by omega, show a + m + 1 = a + (m + 1) by omega]
        omega)
      clear h3 HG
      go_wp2_with fail
      go_roundw
      case rel => exact ⟨m + 1, by go_num, by omega, by omega, HR1.out, HBc.out⟩
      case measure => simp [intOf]; omega
    | false =>
      have HR1 := Lib.hid (show run k 9 (l.drop a) = m from by
        rw [HRUN.out]
        have hG := HG.out
        by_cases h1 : a + m < n
        · by_cases h2 : m < 9
          · rw [decide_eq_true h1, decide_eq_true h2, Bool.true_and, Bool.true_and] at hG
            obtain ⟨c9, hc9⟩ : ∃ c9, 9 - m = c9 + 1 := ⟨9 - m - 1, by omega⟩
            rw [hc9, run_step (s := l.getD (a + m) []) (by rw [List.head?_drop]; exact getD_get (by rw [HLN.out]; exact h1)), hG, if_neg (by simp)]
            rfl
          · rw [show 9 - m = 0 by omega]
            rfl
        · rw [List.drop_eq_nil_of_le (by rw [HLN.out]; omega), run_nil]
          rfl)
      have HPR := Lib.hid (show D = best k (l.drop a) m from by rw [HDP.out, HR1.out])
      clear HG HRUN HR1
      go_wp2_with fail
      go_loopw [11] (fun jv wx => ∃ j : Nat, jv = .int .i64 j ∧ j ≤ m ∧ D = best k (l.drop a) j ∧ Below wc.heap.size wc wx) (fun jv _ => (intOf jv).toNat)
      case atStart => exact ⟨m, rfl, Nat.le_refl _, HPR.out, Below.refl _ _⟩
      case round =>
        obtain ⟨j, rfl, hjm, hD, hB⟩ := hrel
        have HD := Lib.hid hD
        have HBx := Lib.hid hB
        replace HTs := Lib.hid (HTs.out.next hB)
        replace HSs := Lib.hid (HSs.out.next hB)
        replace HRs := Lib.hid (HRs.out.next hB)
        have HBL3 := Lib.hid (Nat.lt_of_lt_of_le HBL.out (Below.andThen BB.out (Below.andThen HBc.out hB)).size)
        clear hD hB
        by_cases h0 : j = 0
        · subst h0
          go_wp2_with fail
          go_ret3
          exact ⟨by rw [HD.out]; rfl, Below.andThen BB.out (Below.andThen HBc.out HBx.out)⟩
        · obtain ⟨i, rfl⟩ : ∃ i, j = i + 1 := ⟨j - 1, by omega⟩
          have hj1 : ((a : Int) + ((i + 1 : Nat) : Int)) = ((a + (i + 1) : Nat) : Int) := by omega
          have CNj := Lib.hid (fun W (T : Tab W) H => CN.out (i + 1) (by omega) (by omega) W T H)
          have hac : ¬ (c : Int) = a := by omega
          have h1 : (a : Int) ≤ a + (i + 1) := by omega
          have h2 : a + (i + 1) ≤ n := by omega
          obtain ⟨q0, q1, q2⟩ := HRs.out.three
          have lr := HRs.out.lt
          cases hn : number k ((l.drop a).take (i + 1)) with
          | some v =>
            rw [hn] at CNj
            unfold numV at CNj
            replace HD := Lib.hid (HD.out.trans (show best k (l.drop a) (i + 1) = some (v, i + 1) from by unfold best; rw [hn]))
            clear hn
            go_upto_region 10 with (fail)
            refine wp_region_kin (by kernel_rfl) (by kernel_rfl) wr.heap.size 0 (by simp) (fun hk => ?_)
            repeat (go_big_quiet_step ((go_at_call 44; with_reducible exact Calls.kin (CNj.out _ (HTs.out.next (Kin.below _)) (HSs.out.next (Kin.below _))))))
            refine wpQuiet_nil ?_
            clear hk
            intro w7 hb
            have HB := Lib.hid hb
            clear hb
            go_wp2_with fail
            go_ret3
            exact ⟨by rw [HD.out]; rfl, Below.andThen BB.out (Below.andThen HBc.out (Below.andThen HBx.out HB.out))⟩
          | none =>
            rw [hn] at CNj
            unfold numV at CNj
            replace HD := Lib.hid (HD.out.trans (show best k (l.drop a) (i + 1) = best k (l.drop a) i from by rw [best, hn]))
            clear hn
            go_upto_region 10 with (fail)
            refine wp_region_kin (by kernel_rfl) (by kernel_rfl) wr.heap.size 0 (by simp) (fun hk => ?_)
            repeat (go_big_quiet_step ((go_at_call 44; with_reducible exact Calls.kin (CNj.out _ (HTs.out.next (Kin.below _)) (HSs.out.next (Kin.below _))))))
            refine wpQuiet_nil ?_
            clear hk
            intro w7 hb
            have HB := Lib.hid hb
            clear hb
            go_wp2_with fail
            go_roundw
            case rel => exact ⟨i, by go_num, by omega, HD.out, Below.andThen HBx.out HB.out⟩
            case measure => simp [intOf]
end Wo
end Go.Proofs.YtebdpdmkehfgfaaDoor
