/- The words of numbers in German. -/
import Derived.Test.YtebdpdmkehfgfaaDoorWoJ
set_option linter.unusedVariables false
set_option linter.unusedSimpArgs false
namespace Go.Proofs.YtebdpdmkehfgfaaDoor
open Go.RowKit
namespace Wo
set_option maxRecDepth 100000 in
theorem deW_len {n : Nat} (hn : n < 1000) : (deW n).length ≤ 60 := of_decide_eq_true (below (p := fun n => decide ((deW n).length ≤ 60)) (N := 1000) (by decide +kernel) hn)
theorem trim_len (p s : B) : (trim p s).length ≤ s.length := by
  unfold trim cutSuffix
  split
  · simp
  · exact Nat.le_refl _
set_option maxRecDepth 100000 in
set_option maxHeartbeats 4000000 in
theorem germanWords_any (n : Nat) (N : Int) (hN : N = n) (hn : n < 1000000) (w : World) (T : Tab w) : Calls Tryd.prog 56 #[.int .i64 N] w fun e w' => ∃ v, e = .returned v ∧ OwnS w' w.heap.size v (de n) ∧ Below w.heap.size w w' := by
  subst hN
  have HT0 := Lib.hid T
  have HT := Lib.hid T
  have BB := Lib.hid (Below.refl w.heap.size w)
  by_cases h0 : n < 1000
  · have CQ := Lib.hid (fun W T => germanSmallWord_any n n rfl h0 W T)
    have HE := Lib.hid (show de n = [deW n] from if_pos h0)
    generalize de n = D at *
    generalize deW n = x at *
    clear T
    go_enter Tryd.func56, Tryd.ntmps56
    go_wp2_with fail
    with_reducible refine Calls.mono (CQ.out _ HT.out) ?_
    rintro e w' ⟨rfl, rfl⟩
    go_wp2_with fail
    go_ret
    exact ⟨_, rfl, by rw [HE.out]; exact made_own w [x] (Nat.le_refl _) rfl rfl (by decide), (Below.refl _ _).alloc (Nat.le_refl _) _⟩
  · obtain ⟨q, hq⟩ : ∃ q, n / 1000 = q := ⟨_, rfl⟩
    obtain ⟨r, hr⟩ : ∃ r, n % 1000 = r := ⟨_, rfl⟩
    have hqi : (n : Int) / 1000 = q := by omega
    have hri : (n : Int) % 1000 = r := by omega
    have r999 : r < 1000 := by omega
    have q999 : q < 1000 := by omega
    have CQ := Lib.hid (fun W T => germanSmallWord_any q q rfl q999 W T)
    have HDr : de n = ((if (ein ++ [115]).isSuffixOf (deW q) then trim [115] (deW q) else deW q) ++ tausend) :: (if r > 0 then [deW r] else []) := by
      unfold de
      rw [hq, hr]
      exact if_neg h0
    have zx := deW_len q999
    generalize de n = D at *
    generalize deW q = x at *
    have z2 : (bs x).size ≤ 60 := by rw [bs_size]; exact zx
    have CH := Lib.hid (fun W => HasSuffix_any x (ein ++ [115]) ⟨#[101, 105, 110, 115]⟩ rfl W (by omega))
    have CT := Lib.hid (fun W => TrimSuffix_any x [115] ⟨#[115]⟩ rfl W (by omega))
    have z3 : (bs (trim [115] x)).size ≤ 60 := by rw [bs_size]; exact Nat.le_trans (trim_len _ _) zx
    have n0 : ¬ (n : Int) < 1000 := by omega
    clear T hq hr
    cases hsu : (ein ++ [115]).isSuffixOf x with
    | true =>
      rw [hsu] at CH HDr
      rw [if_pos rfl] at HDr
      generalize trim [115] x = y at *
      clear hsu
      by_cases hr0 : r = 0
      · subst hr0
        have HE := Lib.hid (show D = [y ++ tausend] by rw [HDr]; rfl)
        have HPL := Lib.hid (show [y ++ tausend].length ≤ 8 from by simp)
        clear HDr
        go_enter Tryd.func56, Tryd.ntmps56
        go_wp2_with fail
        with_reducible refine Calls.mono (CQ.out _ HT.out) ?_
        rintro e w' ⟨rfl, rfl⟩
        go_wp2_with fail
        with_reducible refine Calls.mono (CH.out _) ?_
        rintro e w' ⟨rfl, rfl⟩
        go_wp2_with fail
        with_reducible refine Calls.mono (CT.out _) ?_
        rintro e w' ⟨rfl, rfl⟩
        go_upto_region 7 with (fail)
        rw [show (bs y ++ (⟨#[116, 97, 117, 115, 101, 110, 100]⟩ : ByteArray)) = bs (y ++ tausend) from bs_append y tausend]
        refine wp_named fun v1 hq => ?_
        have HO := Lib.hid (show OwnS v1 w.heap.size (.slice (some ⟨w.heap.size, 0, none⟩) 1 1) [y ++ tausend] from by rw [hq]; exact made_own w [y ++ tausend] (Nat.le_refl _) rfl rfl (by decide))
        have hb : Below w.heap.size w v1 := by rw [hq]; exact (Below.refl _ _).alloc (Nat.le_refl _) _
        replace HT := Lib.hid (HT.out.next hb)
        replace BB := Lib.hid hb
        clear hq hb
        go_wp2_with fail
        go_ret
        exact ⟨_, rfl, by rw [HE.out]; exact HO.out, BB.out⟩
      · have hr1 : 0 < r := by omega
        have CR := Lib.hid (fun W T => germanSmallWord_any r r rfl r999 W T)
        have HE := Lib.hid (show D = [y ++ tausend] ++ [deW r] by rw [HDr, if_pos hr1]; rfl)
        have HPL := Lib.hid (show [y ++ tausend].length ≤ 8 from by simp)
        generalize deW r = z at *
        clear HDr
        go_enter Tryd.func56, Tryd.ntmps56
        go_wp2_with fail
        with_reducible refine Calls.mono (CQ.out _ HT.out) ?_
        rintro e w' ⟨rfl, rfl⟩
        go_wp2_with fail
        with_reducible refine Calls.mono (CH.out _) ?_
        rintro e w' ⟨rfl, rfl⟩
        go_wp2_with fail
        with_reducible refine Calls.mono (CT.out _) ?_
        rintro e w' ⟨rfl, rfl⟩
        go_upto_region 7 with (fail)
        rw [show (bs y ++ (⟨#[116, 97, 117, 115, 101, 110, 100]⟩ : ByteArray)) = bs (y ++ tausend) from bs_append y tausend]
        refine wp_named fun v1 hq => ?_
        have HO := Lib.hid (show OwnS v1 w.heap.size (.slice (some ⟨w.heap.size, 0, none⟩) 1 1) [y ++ tausend] from by rw [hq]; exact made_own w [y ++ tausend] (Nat.le_refl _) rfl rfl (by decide))
        have hb : Below w.heap.size w v1 := by rw [hq]; exact (Below.refl _ _).alloc (Nat.le_refl _) _
        replace HT := Lib.hid (HT.out.next hb)
        replace BB := Lib.hid hb
        clear hq hb
        go_wp2_with fail
        with_reducible refine Calls.mono (CR.out _ HT.out) ?_
        rintro e w' ⟨rfl, rfl⟩
        go_wp2_with (at_builtin; refine wpList_append_strs rfl _ _ rfl rfl w.heap.size (.slice (some ⟨w.heap.size, 0, none⟩) 1 1) ([y ++ tausend]) rfl (HO.out.next ((Below.refl _ _).alloc (Nat.le_refl _) _)) (some ⟨v1.heap.size, 0, none⟩) 1 1 [z] rfl rfl (fun h => by cases h) (ssl_new _ _ [z]) (by have := HPL.out; first | (simp; done) | (simp; omega) | omega) (by have := BB.out.size; first | (simp; done) | (simp; omega) | omega) ?_; intro V9 w9 ho hg; replace BB := Lib.hid (grown_below BB.out hg HO.out.block); replace HO := Lib.hid ho; replace HT := Lib.hid (HT0.out.next BB.out); clear ho hg)
        go_ret
        exact ⟨_, rfl, by rw [HE.out]; exact HO.out, BB.out⟩
    | false =>
      rw [hsu] at CH HDr
      rw [if_neg (by simp)] at HDr
      clear hsu
      by_cases hr0 : r = 0
      · subst hr0
        have HE := Lib.hid (show D = [x ++ tausend] by rw [HDr]; rfl)
        have HPL := Lib.hid (show [x ++ tausend].length ≤ 8 from by simp)
        clear HDr
        go_enter Tryd.func56, Tryd.ntmps56
        go_wp2_with fail
        with_reducible refine Calls.mono (CQ.out _ HT.out) ?_
        rintro e w' ⟨rfl, rfl⟩
        go_wp2_with fail
        with_reducible refine Calls.mono (CH.out _) ?_
        rintro e w' ⟨rfl, rfl⟩
        go_upto_region 7 with (fail)
        rw [show (bs x ++ (⟨#[116, 97, 117, 115, 101, 110, 100]⟩ : ByteArray)) = bs (x ++ tausend) from bs_append x tausend]
        refine wp_named fun v1 hq => ?_
        have HO := Lib.hid (show OwnS v1 w.heap.size (.slice (some ⟨w.heap.size, 0, none⟩) 1 1) [x ++ tausend] from by rw [hq]; exact made_own w [x ++ tausend] (Nat.le_refl _) rfl rfl (by decide))
        have hb : Below w.heap.size w v1 := by rw [hq]; exact (Below.refl _ _).alloc (Nat.le_refl _) _
        replace HT := Lib.hid (HT.out.next hb)
        replace BB := Lib.hid hb
        clear hq hb
        go_wp2_with fail
        go_ret
        exact ⟨_, rfl, by rw [HE.out]; exact HO.out, BB.out⟩
      · have hr1 : 0 < r := by omega
        have CR := Lib.hid (fun W T => germanSmallWord_any r r rfl r999 W T)
        have HE := Lib.hid (show D = [x ++ tausend] ++ [deW r] by rw [HDr, if_pos hr1]; rfl)
        have HPL := Lib.hid (show [x ++ tausend].length ≤ 8 from by simp)
        generalize deW r = z at *
        clear HDr
        go_enter Tryd.func56, Tryd.ntmps56
        go_wp2_with fail
        with_reducible refine Calls.mono (CQ.out _ HT.out) ?_
        rintro e w' ⟨rfl, rfl⟩
        go_wp2_with fail
        with_reducible refine Calls.mono (CH.out _) ?_
        rintro e w' ⟨rfl, rfl⟩
        go_upto_region 7 with (fail)
        rw [show (bs x ++ (⟨#[116, 97, 117, 115, 101, 110, 100]⟩ : ByteArray)) = bs (x ++ tausend) from bs_append x tausend]
        refine wp_named fun v1 hq => ?_
        have HO := Lib.hid (show OwnS v1 w.heap.size (.slice (some ⟨w.heap.size, 0, none⟩) 1 1) [x ++ tausend] from by rw [hq]; exact made_own w [x ++ tausend] (Nat.le_refl _) rfl rfl (by decide))
        have hb : Below w.heap.size w v1 := by rw [hq]; exact (Below.refl _ _).alloc (Nat.le_refl _) _
        replace HT := Lib.hid (HT.out.next hb)
        replace BB := Lib.hid hb
        clear hq hb
        go_wp2_with fail
        with_reducible refine Calls.mono (CR.out _ HT.out) ?_
        rintro e w' ⟨rfl, rfl⟩
        go_wp2_with (at_builtin; refine wpList_append_strs rfl _ _ rfl rfl w.heap.size (.slice (some ⟨w.heap.size, 0, none⟩) 1 1) ([x ++ tausend]) rfl (HO.out.next ((Below.refl _ _).alloc (Nat.le_refl _) _)) (some ⟨v1.heap.size, 0, none⟩) 1 1 [z] rfl rfl (fun h => by cases h) (ssl_new _ _ [z]) (by have := HPL.out; first | (simp; done) | (simp; omega) | omega) (by have := BB.out.size; first | (simp; done) | (simp; omega) | omega) ?_; intro V9 w9 ho hg; replace BB := Lib.hid (grown_below BB.out hg HO.out.block); replace HO := Lib.hid ho; replace HT := Lib.hid (HT0.out.next BB.out); clear ho hg)
        go_ret
        exact ⟨_, rfl, by rw [HE.out]; exact HO.out, BB.out⟩
end Wo
end Go.Proofs.YtebdpdmkehfgfaaDoor
