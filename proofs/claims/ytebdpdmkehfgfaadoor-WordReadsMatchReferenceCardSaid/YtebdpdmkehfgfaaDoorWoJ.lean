/- The words of numbers in English. -/
import Derived.Test.YtebdpdmkehfgfaaDoorWoI
set_option linter.unusedVariables false
set_option linter.unusedSimpArgs false
namespace Go.Proofs.YtebdpdmkehfgfaaDoor
open Go.RowKit
namespace Wo
theorem grown_below {w W w1 : World} {o : Obj} {v : Value} (hB : Below w.heap.size w W) (hg : (W.alloc o).grownBy w1 v.ownBlock) (hob : ∀ j, v.ownBlock = some j → w.heap.size ≤ j) : Below w.heap.size w w1 :=
  (hB.alloc hB.size _).grown hg (by have := hB.size; simp; omega) hob
set_option maxRecDepth 100000 in
set_option maxHeartbeats 4000000 in
theorem englishWords_s (n : Nat) (N : Int) (hN : N = n) (hn : n < 1000) (w : World) (T : Tab w) : Calls Tryd.prog 53 #[.int .i64 N] w fun e w' => ∃ v, e = .returned v ∧ OwnS w' w.heap.size v (enS n) ∧ Below w.heap.size w w' := by
  subst hN
  have HT0 := Lib.hid T
  have HT := Lib.hid T
  have BB := Lib.hid (Below.refl w.heap.size w)
  have HO := Lib.hid (ownS_nil w w.heap.size)
  have HPL := Lib.hid (show ([] : List B).length ≤ 8 from by decide)
  have CW := Lib.hid (fun (m : Nat) (hm : m < 100) (M : Int) (hM : M = (m : Int)) W T => word_any 0 m 1 M (by decide) rfl hM hm W T)
  have zW := Lib.hid (fun (m : Nat) (hm : m < 100) => show (bs (wordOf 0 m)).size ≤ 20 by rw [bs_size]; exact word_small (by decide) hm)
  have HDr : enS n = [] ++ ((if n / 100 > 0 then [wordOf 0 (n / 100), hundred] else []) ++ (if n / 100 > 0 ∧ n % 100 = 0 then [] else if n % 100 < 20 ∨ n % 10 = 0 then [wordOf 0 (n % 100)] else [wordOf 0 (n % 100 - n % 10) ++ [45] ++ wordOf 0 (n % 10)])) := rfl
  rw [List.nil_append] at HDr
  have hq : (n : Int) / 1000 = 0 := by omega
  generalize enS n = D at *
  clear T
  by_cases h0 : n / 100 > 0
  · obtain ⟨h, hh⟩ : ∃ h, n / 100 = h := ⟨_, rfl⟩
    obtain ⟨t, ht⟩ : ∃ t, n % 100 = t := ⟨_, rfl⟩
    have ht2 : n % 10 = t % 10 := by omega
    have hi1 : (n : Int) / 100 = h := by omega
    have hi2 : (n : Int) % 100 = t := by omega
    have z1 := zW.out h (by omega)
    have C1 := Lib.hid (fun W T => CW.out h (by omega) h rfl W T)
    rw [hh, ht, ht2] at HDr
    rw [hh] at h0
    have h9 : h < 10 := by omega
    have t99 : t < 100 := by omega
    rw [if_pos h0] at HDr
    generalize wordOf 0 h = x1 at *
    clear hh ht ht2
    by_cases hz : t = 0
    · subst hz
      have HE := Lib.hid (show D = ([] : List B) ++ [x1, hundred] by rw [HDr, if_pos ⟨h0, rfl⟩]; simp)
      clear HDr
      go_enter Tryd.func53, Tryd.ntmps53
      go_wp2_with fail
      with_reducible refine Calls.mono (C1.out _ HT.out) ?_
      rintro e w' ⟨rfl, rfl⟩
      go_wp2_with (at_builtin; refine wpList_append_strs rfl _ _ rfl rfl w.heap.size (.slice none 0 0) (([] : List B)) rfl (HO.out.next ((Below.refl _ _).alloc (Nat.le_refl _) _)) (some ⟨w.heap.size, 0, none⟩) 2 2 [x1, hundred] rfl rfl (fun h => by cases h) (ssl_new _ _ [x1, hundred]) (by have := HPL.out; first | (simp; done) | (simp; omega) | omega) (by have := BB.out.size; first | (simp; done) | (simp; omega) | omega) ?_; intro V2 w2 ho hg; replace BB := Lib.hid (grown_below BB.out hg HO.out.block); replace HO := Lib.hid ho; replace HT := Lib.hid (HT0.out.next BB.out); clear ho hg)
      go_ret
      exact ⟨_, rfl, by rw [HE.out]; exact HO.out, BB.out⟩
    · have e0 : ((t : Int) == 0) = false := by simp; omega
      have HD2 := Lib.hid (show D = ([] : List B) ++ [x1, hundred] ++ (if t < 20 ∨ t % 10 = 0 then [wordOf 0 t] else [wordOf 0 (t - t % 10) ++ [45] ++ wordOf 0 (t % 10)]) by rw [HDr, if_neg (fun h => hz h.2)]; simp)
      clear HDr
      by_cases ha : t < 20 ∨ t % 10 = 0
      · have z2 := zW.out t (by omega)
        have C2 := Lib.hid (fun W T => CW.out t (by omega) t rfl W T)
        have HE := Lib.hid (show D = ([] : List B) ++ [x1, hundred] ++ [wordOf 0 t] by rw [HD2.out, if_pos ha])
        generalize wordOf 0 t = x2 at *
        by_cases hb : t < 20
        · clear ha
          go_enter Tryd.func53, Tryd.ntmps53
          go_wp2_with fail
          with_reducible refine Calls.mono (C1.out _ HT.out) ?_
          rintro e w' ⟨rfl, rfl⟩
          go_wp2_with (at_builtin; refine wpList_append_strs rfl _ _ rfl rfl w.heap.size (.slice none 0 0) (([] : List B)) rfl (HO.out.next ((Below.refl _ _).alloc (Nat.le_refl _) _)) (some ⟨w.heap.size, 0, none⟩) 2 2 [x1, hundred] rfl rfl (fun h => by cases h) (ssl_new _ _ [x1, hundred]) (by have := HPL.out; first | (simp; done) | (simp; omega) | omega) (by have := BB.out.size; first | (simp; done) | (simp; omega) | omega) ?_; intro V2 w2 ho hg; replace BB := Lib.hid (grown_below BB.out hg HO.out.block); replace HO := Lib.hid ho; replace HT := Lib.hid (HT0.out.next BB.out); clear ho hg)
          with_reducible refine Calls.mono (C2.out _ HT.out) ?_
          rintro e w' ⟨rfl, rfl⟩
          go_wp2_with (at_builtin; refine wpList_append_strs rfl _ _ rfl rfl w.heap.size V2 (([] : List B) ++ [x1, hundred]) rfl (HO.out.next ((Below.refl _ _).alloc (Nat.le_refl _) _)) (some ⟨w2.heap.size, 0, none⟩) 1 1 [x2] rfl rfl (fun h => by cases h) (ssl_new _ _ [x2]) (by have := HPL.out; first | (simp; done) | (simp; omega) | omega) (by have := BB.out.size; first | (simp; done) | (simp; omega) | omega) ?_; intro V9 w9 ho hg; replace BB := Lib.hid (grown_below BB.out hg HO.out.block); replace HO := Lib.hid ho; replace HT := Lib.hid (HT0.out.next BB.out); clear ho hg)
          go_ret
          exact ⟨_, rfl, by rw [HE.out]; exact HO.out, BB.out⟩
        · have hc : (t : Int) % 10 = 0 := by omega
          clear ha
          go_enter Tryd.func53, Tryd.ntmps53
          go_wp2_with fail
          with_reducible refine Calls.mono (C1.out _ HT.out) ?_
          rintro e w' ⟨rfl, rfl⟩
          go_wp2_with (at_builtin; refine wpList_append_strs rfl _ _ rfl rfl w.heap.size (.slice none 0 0) (([] : List B)) rfl (HO.out.next ((Below.refl _ _).alloc (Nat.le_refl _) _)) (some ⟨w.heap.size, 0, none⟩) 2 2 [x1, hundred] rfl rfl (fun h => by cases h) (ssl_new _ _ [x1, hundred]) (by have := HPL.out; first | (simp; done) | (simp; omega) | omega) (by have := BB.out.size; first | (simp; done) | (simp; omega) | omega) ?_; intro V2 w2 ho hg; replace BB := Lib.hid (grown_below BB.out hg HO.out.block); replace HO := Lib.hid ho; replace HT := Lib.hid (HT0.out.next BB.out); clear ho hg)
          with_reducible refine Calls.mono (C2.out _ HT.out) ?_
          rintro e w' ⟨rfl, rfl⟩
          go_wp2_with (at_builtin; refine wpList_append_strs rfl _ _ rfl rfl w.heap.size V2 (([] : List B) ++ [x1, hundred]) rfl (HO.out.next ((Below.refl _ _).alloc (Nat.le_refl _) _)) (some ⟨w2.heap.size, 0, none⟩) 1 1 [x2] rfl rfl (fun h => by cases h) (ssl_new _ _ [x2]) (by have := HPL.out; first | (simp; done) | (simp; omega) | omega) (by have := BB.out.size; first | (simp; done) | (simp; omega) | omega) ?_; intro V9 w9 ho hg; replace BB := Lib.hid (grown_below BB.out hg HO.out.block); replace HO := Lib.hid ho; replace HT := Lib.hid (HT0.out.next BB.out); clear ho hg)
          go_ret
          exact ⟨_, rfl, by rw [HE.out]; exact HO.out, BB.out⟩
      · obtain ⟨d, hd⟩ : ∃ d, t % 10 = d := ⟨_, rfl⟩
        obtain ⟨u, hu⟩ : ∃ u, t - d = u := ⟨_, rfl⟩
        have z2 := zW.out u (by omega)
        have C2 := Lib.hid (fun W T => CW.out u (by omega) u rfl W T)
        have z3 := zW.out d (by omega)
        have C3 := Lib.hid (fun W T => CW.out d (by omega) d rfl W T)
        have HE := Lib.hid (show D = ([] : List B) ++ [x1, hundred] ++ [wordOf 0 u ++ [45] ++ wordOf 0 d] by rw [HD2.out, if_neg ha, hd, hu])
        have e1 : (t : Int) % 10 = d := by omega
        have e2 : (t : Int) - d = u := by omega
        have e3 : ((d : Int) == 0) = false := by simp; omega
        have e4 : ¬ (t : Int) < 20 := by omega
        clear ha hd hu
        generalize wordOf 0 u = x2 at *
        generalize wordOf 0 d = x3 at *
        go_enter Tryd.func53, Tryd.ntmps53
        go_wp2_with fail
        with_reducible refine Calls.mono (C1.out _ HT.out) ?_
        rintro e w' ⟨rfl, rfl⟩
        go_wp2_with (at_builtin; refine wpList_append_strs rfl _ _ rfl rfl w.heap.size (.slice none 0 0) (([] : List B)) rfl (HO.out.next ((Below.refl _ _).alloc (Nat.le_refl _) _)) (some ⟨w.heap.size, 0, none⟩) 2 2 [x1, hundred] rfl rfl (fun h => by cases h) (ssl_new _ _ [x1, hundred]) (by have := HPL.out; first | (simp; done) | (simp; omega) | omega) (by have := BB.out.size; first | (simp; done) | (simp; omega) | omega) ?_; intro V2 w2 ho hg; replace BB := Lib.hid (grown_below BB.out hg HO.out.block); replace HO := Lib.hid ho; replace HT := Lib.hid (HT0.out.next BB.out); clear ho hg)
        with_reducible refine Calls.mono (C2.out _ HT.out) ?_
        rintro e w' ⟨rfl, rfl⟩
        go_wp2_with fail
        with_reducible refine Calls.mono (C3.out _ HT.out) ?_
        rintro e w' ⟨rfl, rfl⟩
        go_wp2_with (at_builtin; refine wpList_append_strs rfl _ _ rfl rfl w.heap.size V2 (([] : List B) ++ [x1, hundred]) rfl (HO.out.next ((Below.refl _ _).alloc (Nat.le_refl _) _)) (some ⟨w2.heap.size, 0, none⟩) 1 1 [x2 ++ [45] ++ x3] rfl rfl (fun h => by cases h) (by rw [show bs x2 ++ (⟨#[45]⟩ : ByteArray) ++ bs x3 = bs (x2 ++ [45] ++ x3) from by rw [← bs_append, ← bs_append]; rfl]; exact ssl_new _ _ [x2 ++ [45] ++ x3]) (by have := HPL.out; first | (simp; done) | (simp; omega) | omega) (by have := BB.out.size; first | (simp; done) | (simp; omega) | omega) ?_; intro V9 w9 ho hg; replace BB := Lib.hid (grown_below BB.out hg HO.out.block); replace HO := Lib.hid ho; replace HT := Lib.hid (HT0.out.next BB.out); clear ho hg)
        go_ret
        exact ⟨_, rfl, by rw [HE.out]; exact HO.out, BB.out⟩
  · have hi1 : (n : Int) / 100 = 0 := by omega
    have e0 : n % 100 = n := by omega
    have HD2 := Lib.hid (show D = ([] : List B) ++ (if n < 20 ∨ n % 10 = 0 then [wordOf 0 n] else [wordOf 0 (n - n % 10) ++ [45] ++ wordOf 0 (n % 10)]) by rw [HDr, if_neg h0, if_neg (fun h => h0 h.1), e0])
    clear HDr e0
    by_cases ha : n < 20 ∨ n % 10 = 0
    · have z2 := zW.out n (by omega)
      have C2 := Lib.hid (fun W T => CW.out n (by omega) n rfl W T)
      have HE := Lib.hid (show D = ([] : List B) ++ [wordOf 0 n] by rw [HD2.out, if_pos ha])
      generalize wordOf 0 n = x2 at *
      by_cases hb : n < 20
      · clear ha
        go_enter Tryd.func53, Tryd.ntmps53
        go_wp2_with fail
        with_reducible refine Calls.mono (C2.out _ HT.out) ?_
        rintro e w' ⟨rfl, rfl⟩
        go_wp2_with (at_builtin; refine wpList_append_strs rfl _ _ rfl rfl w.heap.size (.slice none 0 0) (([] : List B)) rfl (HO.out.next ((Below.refl _ _).alloc (Nat.le_refl _) _)) (some ⟨w.heap.size, 0, none⟩) 1 1 [x2] rfl rfl (fun h => by cases h) (ssl_new _ _ [x2]) (by have := HPL.out; first | (simp; done) | (simp; omega) | omega) (by have := BB.out.size; first | (simp; done) | (simp; omega) | omega) ?_; intro V9 w9 ho hg; replace BB := Lib.hid (grown_below BB.out hg HO.out.block); replace HO := Lib.hid ho; replace HT := Lib.hid (HT0.out.next BB.out); clear ho hg)
        go_ret
        exact ⟨_, rfl, by rw [HE.out]; exact HO.out, BB.out⟩
      · have hc : (n : Int) % 10 = 0 := by omega
        clear ha
        go_enter Tryd.func53, Tryd.ntmps53
        go_wp2_with fail
        with_reducible refine Calls.mono (C2.out _ HT.out) ?_
        rintro e w' ⟨rfl, rfl⟩
        go_wp2_with (at_builtin; refine wpList_append_strs rfl _ _ rfl rfl w.heap.size (.slice none 0 0) (([] : List B)) rfl (HO.out.next ((Below.refl _ _).alloc (Nat.le_refl _) _)) (some ⟨w.heap.size, 0, none⟩) 1 1 [x2] rfl rfl (fun h => by cases h) (ssl_new _ _ [x2]) (by have := HPL.out; first | (simp; done) | (simp; omega) | omega) (by have := BB.out.size; first | (simp; done) | (simp; omega) | omega) ?_; intro V9 w9 ho hg; replace BB := Lib.hid (grown_below BB.out hg HO.out.block); replace HO := Lib.hid ho; replace HT := Lib.hid (HT0.out.next BB.out); clear ho hg)
        go_ret
        exact ⟨_, rfl, by rw [HE.out]; exact HO.out, BB.out⟩
    · obtain ⟨d, hd⟩ : ∃ d, n % 10 = d := ⟨_, rfl⟩
      obtain ⟨u, hu⟩ : ∃ u, n - d = u := ⟨_, rfl⟩
      have z2 := zW.out u (by omega)
      have C2 := Lib.hid (fun W T => CW.out u (by omega) u rfl W T)
      have z3 := zW.out d (by omega)
      have C3 := Lib.hid (fun W T => CW.out d (by omega) d rfl W T)
      have HE := Lib.hid (show D = ([] : List B) ++ [wordOf 0 u ++ [45] ++ wordOf 0 d] by rw [HD2.out, if_neg ha, hd, hu])
      have e1 : (n : Int) % 10 = d := by omega
      have e2 : (n : Int) - d = u := by omega
      have e3 : ((d : Int) == 0) = false := by simp; omega
      have e4 : ¬ (n : Int) < 20 := by omega
      clear ha hd hu
      generalize wordOf 0 u = x2 at *
      generalize wordOf 0 d = x3 at *
      go_enter Tryd.func53, Tryd.ntmps53
      go_wp2_with fail
      with_reducible refine Calls.mono (C2.out _ HT.out) ?_
      rintro e w' ⟨rfl, rfl⟩
      go_wp2_with fail
      with_reducible refine Calls.mono (C3.out _ HT.out) ?_
      rintro e w' ⟨rfl, rfl⟩
      go_wp2_with (at_builtin; refine wpList_append_strs rfl _ _ rfl rfl w.heap.size (.slice none 0 0) (([] : List B)) rfl (HO.out.next ((Below.refl _ _).alloc (Nat.le_refl _) _)) (some ⟨w.heap.size, 0, none⟩) 1 1 [x2 ++ [45] ++ x3] rfl rfl (fun h => by cases h) (by rw [show bs x2 ++ (⟨#[45]⟩ : ByteArray) ++ bs x3 = bs (x2 ++ [45] ++ x3) from by rw [← bs_append, ← bs_append]; rfl]; exact ssl_new _ _ [x2 ++ [45] ++ x3]) (by have := HPL.out; first | (simp; done) | (simp; omega) | omega) (by have := BB.out.size; first | (simp; done) | (simp; omega) | omega) ?_; intro V9 w9 ho hg; replace BB := Lib.hid (grown_below BB.out hg HO.out.block); replace HO := Lib.hid ho; replace HT := Lib.hid (HT0.out.next BB.out); clear ho hg)
      go_ret
      exact ⟨_, rfl, by rw [HE.out]; exact HO.out, BB.out⟩
set_option maxRecDepth 100000 in
set_option maxHeartbeats 4000000 in
theorem englishWords_any (n : Nat) (N : Int) (hN : N = n) (hn : n < 1000000) (w : World) (T : Tab w) : Calls Tryd.prog 53 #[.int .i64 N] w fun e w' => ∃ v, e = .returned v ∧ OwnS w' w.heap.size v (en n) ∧ Below w.heap.size w w' := by
  subst hN
  by_cases hq0 : n / 1000 > 0
  · obtain ⟨q, hq⟩ : ∃ q, n / 1000 = q := ⟨_, rfl⟩
    obtain ⟨r, hr⟩ : ∃ r, n % 1000 = r := ⟨_, rfl⟩
    have hqi : (n : Int) / 1000 = q := by omega
    have hri : (n : Int) % 1000 = r := by omega
    have r999 : r < 1000 := by omega
    have CQ := Lib.hid (englishWords_s q q rfl (by omega) w T)
    have HPL := Lib.hid (show (enS q).length ≤ 4 from (en_small (n := q) (by omega)).2.2.2)
    have HDr : en n = enS q ++ thousand :: (if r = 0 then [] else enS r) := by
      unfold en
      rw [hq, hr]
      exact if_pos (by omega)
    have HT0 := Lib.hid T
    have CW := Lib.hid (fun (m : Nat) (hm : m < 100) (M : Int) (hM : M = (m : Int)) W T => word_any 0 m 1 M (by decide) rfl hM hm W T)
    have zW := Lib.hid (fun (m : Nat) (hm : m < 100) => show (bs (wordOf 0 m)).size ≤ 20 by rw [bs_size]; exact word_small (by decide) hm)
    have hq1 : 0 < q := by omega
    generalize en n = D at *
    generalize enS q = P0 at *
    clear T hq hr hq0
    by_cases hr0 : r = 0
    · subst hr0
      have HE := Lib.hid (show D = P0 ++ [thousand] from HDr)
      clear HDr
      go_enter Tryd.func53, Tryd.ntmps53
      go_wp2_with fail
      with_reducible refine Calls.mono CQ.out ?_
      rintro e w1 ⟨v, rfl, ho, hb⟩
      have HO := Lib.hid ho
      have BB := Lib.hid hb
      have HT := Lib.hid (HT0.out.next hb)
      clear ho hb
      go_wp2_with (at_builtin; refine wpList_append_strs rfl _ _ rfl rfl w.heap.size v (P0) rfl (HO.out.next ((Below.refl _ _).alloc (Nat.le_refl _) _)) (some ⟨w1.heap.size, 0, none⟩) 1 1 [thousand] rfl rfl (fun h => by cases h) (ssl_new _ _ [thousand]) (by have := HPL.out; first | (simp; done) | (simp; omega) | omega) (by have := BB.out.size; first | (simp; done) | (simp; omega) | omega) ?_; intro V1 w4 ho hg; replace BB := Lib.hid (grown_below BB.out hg HO.out.block); replace HO := Lib.hid ho; replace HT := Lib.hid (HT0.out.next BB.out); clear ho hg)
      go_ret
      exact ⟨_, rfl, by rw [HE.out]; exact HO.out, BB.out⟩
    · have er0 : ((r : Int) == 0) = false := by simp; omega
      rw [if_neg hr0] at HDr
      replace HDr : D = (P0 ++ [thousand]) ++ ((if r / 100 > 0 then [wordOf 0 (r / 100), hundred] else []) ++ (if r / 100 > 0 ∧ r % 100 = 0 then [] else if r % 100 < 20 ∨ r % 10 = 0 then [wordOf 0 (r % 100)] else [wordOf 0 (r % 100 - r % 10) ++ [45] ++ wordOf 0 (r % 10)])) := by rw [HDr]; unfold enS; simp
      by_cases h0 : r / 100 > 0
      · obtain ⟨h, hh⟩ : ∃ h, r / 100 = h := ⟨_, rfl⟩
        obtain ⟨t, ht⟩ : ∃ t, r % 100 = t := ⟨_, rfl⟩
        have ht2 : r % 10 = t % 10 := by omega
        have hi1 : (r : Int) / 100 = h := by omega
        have hi2 : (r : Int) % 100 = t := by omega
        have z1 := zW.out h (by omega)
        have C1 := Lib.hid (fun W T => CW.out h (by omega) h rfl W T)
        rw [hh, ht, ht2] at HDr
        rw [hh] at h0
        have h9 : h < 10 := by omega
        have t99 : t < 100 := by omega
        rw [if_pos h0] at HDr
        generalize wordOf 0 h = x1 at *
        clear hh ht ht2
        by_cases hz : t = 0
        · subst hz
          have HE := Lib.hid (show D = (P0 ++ [thousand]) ++ [x1, hundred] by rw [HDr, if_pos ⟨h0, rfl⟩]; simp)
          clear HDr
          go_enter Tryd.func53, Tryd.ntmps53
          go_wp2_with fail
          with_reducible refine Calls.mono CQ.out ?_
          rintro e w1 ⟨v, rfl, ho, hb⟩
          have HO := Lib.hid ho
          have BB := Lib.hid hb
          have HT := Lib.hid (HT0.out.next hb)
          clear ho hb
          go_wp2_with (at_builtin; refine wpList_append_strs rfl _ _ rfl rfl w.heap.size v (P0) rfl (HO.out.next ((Below.refl _ _).alloc (Nat.le_refl _) _)) (some ⟨w1.heap.size, 0, none⟩) 1 1 [thousand] rfl rfl (fun h => by cases h) (ssl_new _ _ [thousand]) (by have := HPL.out; first | (simp; done) | (simp; omega) | omega) (by have := BB.out.size; first | (simp; done) | (simp; omega) | omega) ?_; intro V1 w4 ho hg; replace BB := Lib.hid (grown_below BB.out hg HO.out.block); replace HO := Lib.hid ho; replace HT := Lib.hid (HT0.out.next BB.out); clear ho hg)
          with_reducible refine Calls.mono (C1.out _ HT.out) ?_
          rintro e w' ⟨rfl, rfl⟩
          go_wp2_with (at_builtin; refine wpList_append_strs rfl _ _ rfl rfl w.heap.size V1 ((P0 ++ [thousand])) rfl (HO.out.next ((Below.refl _ _).alloc (Nat.le_refl _) _)) (some ⟨w4.heap.size, 0, none⟩) 2 2 [x1, hundred] rfl rfl (fun h => by cases h) (ssl_new _ _ [x1, hundred]) (by have := HPL.out; first | (simp; done) | (simp; omega) | omega) (by have := BB.out.size; first | (simp; done) | (simp; omega) | omega) ?_; intro V2 w2 ho hg; replace BB := Lib.hid (grown_below BB.out hg HO.out.block); replace HO := Lib.hid ho; replace HT := Lib.hid (HT0.out.next BB.out); clear ho hg)
          go_ret
          exact ⟨_, rfl, by rw [HE.out]; exact HO.out, BB.out⟩
        · have e0 : ((t : Int) == 0) = false := by simp; omega
          have HD2 := Lib.hid (show D = (P0 ++ [thousand]) ++ [x1, hundred] ++ (if t < 20 ∨ t % 10 = 0 then [wordOf 0 t] else [wordOf 0 (t - t % 10) ++ [45] ++ wordOf 0 (t % 10)]) by rw [HDr, if_neg (fun h => hz h.2)]; simp)
          clear HDr
          by_cases ha : t < 20 ∨ t % 10 = 0
          · have z2 := zW.out t (by omega)
            have C2 := Lib.hid (fun W T => CW.out t (by omega) t rfl W T)
            have HE := Lib.hid (show D = (P0 ++ [thousand]) ++ [x1, hundred] ++ [wordOf 0 t] by rw [HD2.out, if_pos ha])
            generalize wordOf 0 t = x2 at *
            by_cases hb : t < 20
            · clear ha
              go_enter Tryd.func53, Tryd.ntmps53
              go_wp2_with fail
              with_reducible refine Calls.mono CQ.out ?_
              rintro e w1 ⟨v, rfl, ho, hb⟩
              have HO := Lib.hid ho
              have BB := Lib.hid hb
              have HT := Lib.hid (HT0.out.next hb)
              clear ho hb
              go_wp2_with (at_builtin; refine wpList_append_strs rfl _ _ rfl rfl w.heap.size v (P0) rfl (HO.out.next ((Below.refl _ _).alloc (Nat.le_refl _) _)) (some ⟨w1.heap.size, 0, none⟩) 1 1 [thousand] rfl rfl (fun h => by cases h) (ssl_new _ _ [thousand]) (by have := HPL.out; first | (simp; done) | (simp; omega) | omega) (by have := BB.out.size; first | (simp; done) | (simp; omega) | omega) ?_; intro V1 w4 ho hg; replace BB := Lib.hid (grown_below BB.out hg HO.out.block); replace HO := Lib.hid ho; replace HT := Lib.hid (HT0.out.next BB.out); clear ho hg)
              with_reducible refine Calls.mono (C1.out _ HT.out) ?_
              rintro e w' ⟨rfl, rfl⟩
              go_wp2_with (at_builtin; refine wpList_append_strs rfl _ _ rfl rfl w.heap.size V1 ((P0 ++ [thousand])) rfl (HO.out.next ((Below.refl _ _).alloc (Nat.le_refl _) _)) (some ⟨w4.heap.size, 0, none⟩) 2 2 [x1, hundred] rfl rfl (fun h => by cases h) (ssl_new _ _ [x1, hundred]) (by have := HPL.out; first | (simp; done) | (simp; omega) | omega) (by have := BB.out.size; first | (simp; done) | (simp; omega) | omega) ?_; intro V2 w2 ho hg; replace BB := Lib.hid (grown_below BB.out hg HO.out.block); replace HO := Lib.hid ho; replace HT := Lib.hid (HT0.out.next BB.out); clear ho hg)
              with_reducible refine Calls.mono (C2.out _ HT.out) ?_
              rintro e w' ⟨rfl, rfl⟩
              go_wp2_with (at_builtin; refine wpList_append_strs rfl _ _ rfl rfl w.heap.size V2 ((P0 ++ [thousand]) ++ [x1, hundred]) rfl (HO.out.next ((Below.refl _ _).alloc (Nat.le_refl _) _)) (some ⟨w2.heap.size, 0, none⟩) 1 1 [x2] rfl rfl (fun h => by cases h) (ssl_new _ _ [x2]) (by have := HPL.out; first | (simp; done) | (simp; omega) | omega) (by have := BB.out.size; first | (simp; done) | (simp; omega) | omega) ?_; intro V9 w9 ho hg; replace BB := Lib.hid (grown_below BB.out hg HO.out.block); replace HO := Lib.hid ho; replace HT := Lib.hid (HT0.out.next BB.out); clear ho hg)
              go_ret
              exact ⟨_, rfl, by rw [HE.out]; exact HO.out, BB.out⟩
            · have hc : (t : Int) % 10 = 0 := by omega
              clear ha
              go_enter Tryd.func53, Tryd.ntmps53
              go_wp2_with fail
              with_reducible refine Calls.mono CQ.out ?_
              rintro e w1 ⟨v, rfl, ho, hb⟩
              have HO := Lib.hid ho
              have BB := Lib.hid hb
              have HT := Lib.hid (HT0.out.next hb)
              clear ho hb
              go_wp2_with (at_builtin; refine wpList_append_strs rfl _ _ rfl rfl w.heap.size v (P0) rfl (HO.out.next ((Below.refl _ _).alloc (Nat.le_refl _) _)) (some ⟨w1.heap.size, 0, none⟩) 1 1 [thousand] rfl rfl (fun h => by cases h) (ssl_new _ _ [thousand]) (by have := HPL.out; first | (simp; done) | (simp; omega) | omega) (by have := BB.out.size; first | (simp; done) | (simp; omega) | omega) ?_; intro V1 w4 ho hg; replace BB := Lib.hid (grown_below BB.out hg HO.out.block); replace HO := Lib.hid ho; replace HT := Lib.hid (HT0.out.next BB.out); clear ho hg)
              with_reducible refine Calls.mono (C1.out _ HT.out) ?_
              rintro e w' ⟨rfl, rfl⟩
              go_wp2_with (at_builtin; refine wpList_append_strs rfl _ _ rfl rfl w.heap.size V1 ((P0 ++ [thousand])) rfl (HO.out.next ((Below.refl _ _).alloc (Nat.le_refl _) _)) (some ⟨w4.heap.size, 0, none⟩) 2 2 [x1, hundred] rfl rfl (fun h => by cases h) (ssl_new _ _ [x1, hundred]) (by have := HPL.out; first | (simp; done) | (simp; omega) | omega) (by have := BB.out.size; first | (simp; done) | (simp; omega) | omega) ?_; intro V2 w2 ho hg; replace BB := Lib.hid (grown_below BB.out hg HO.out.block); replace HO := Lib.hid ho; replace HT := Lib.hid (HT0.out.next BB.out); clear ho hg)
              with_reducible refine Calls.mono (C2.out _ HT.out) ?_
              rintro e w' ⟨rfl, rfl⟩
              go_wp2_with (at_builtin; refine wpList_append_strs rfl _ _ rfl rfl w.heap.size V2 ((P0 ++ [thousand]) ++ [x1, hundred]) rfl (HO.out.next ((Below.refl _ _).alloc (Nat.le_refl _) _)) (some ⟨w2.heap.size, 0, none⟩) 1 1 [x2] rfl rfl (fun h => by cases h) (ssl_new _ _ [x2]) (by have := HPL.out; first | (simp; done) | (simp; omega) | omega) (by have := BB.out.size; first | (simp; done) | (simp; omega) | omega) ?_; intro V9 w9 ho hg; replace BB := Lib.hid (grown_below BB.out hg HO.out.block); replace HO := Lib.hid ho; replace HT := Lib.hid (HT0.out.next BB.out); clear ho hg)
              go_ret
              exact ⟨_, rfl, by rw [HE.out]; exact HO.out, BB.out⟩
          · obtain ⟨d, hd⟩ : ∃ d, t % 10 = d := ⟨_, rfl⟩
            obtain ⟨u, hu⟩ : ∃ u, t - d = u := ⟨_, rfl⟩
            have z2 := zW.out u (by omega)
            have C2 := Lib.hid (fun W T => CW.out u (by omega) u rfl W T)
            have z3 := zW.out d (by omega)
            have C3 := Lib.hid (fun W T => CW.out d (by omega) d rfl W T)
            have HE := Lib.hid (show D = (P0 ++ [thousand]) ++ [x1, hundred] ++ [wordOf 0 u ++ [45] ++ wordOf 0 d] by rw [HD2.out, if_neg ha, hd, hu])
            have e1 : (t : Int) % 10 = d := by omega
            have e2 : (t : Int) - d = u := by omega
            have e3 : ((d : Int) == 0) = false := by simp; omega
            have e4 : ¬ (t : Int) < 20 := by omega
            clear ha hd hu
            generalize wordOf 0 u = x2 at *
            generalize wordOf 0 d = x3 at *
            go_enter Tryd.func53, Tryd.ntmps53
            go_wp2_with fail
            with_reducible refine Calls.mono CQ.out ?_
            rintro e w1 ⟨v, rfl, ho, hb⟩
            have HO := Lib.hid ho
            have BB := Lib.hid hb
            have HT := Lib.hid (HT0.out.next hb)
            clear ho hb
            go_wp2_with (at_builtin; refine wpList_append_strs rfl _ _ rfl rfl w.heap.size v (P0) rfl (HO.out.next ((Below.refl _ _).alloc (Nat.le_refl _) _)) (some ⟨w1.heap.size, 0, none⟩) 1 1 [thousand] rfl rfl (fun h => by cases h) (ssl_new _ _ [thousand]) (by have := HPL.out; first | (simp; done) | (simp; omega) | omega) (by have := BB.out.size; first | (simp; done) | (simp; omega) | omega) ?_; intro V1 w4 ho hg; replace BB := Lib.hid (grown_below BB.out hg HO.out.block); replace HO := Lib.hid ho; replace HT := Lib.hid (HT0.out.next BB.out); clear ho hg)
            with_reducible refine Calls.mono (C1.out _ HT.out) ?_
            rintro e w' ⟨rfl, rfl⟩
            go_wp2_with (at_builtin; refine wpList_append_strs rfl _ _ rfl rfl w.heap.size V1 ((P0 ++ [thousand])) rfl (HO.out.next ((Below.refl _ _).alloc (Nat.le_refl _) _)) (some ⟨w4.heap.size, 0, none⟩) 2 2 [x1, hundred] rfl rfl (fun h => by cases h) (ssl_new _ _ [x1, hundred]) (by have := HPL.out; first | (simp; done) | (simp; omega) | omega) (by have := BB.out.size; first | (simp; done) | (simp; omega) | omega) ?_; intro V2 w2 ho hg; replace BB := Lib.hid (grown_below BB.out hg HO.out.block); replace HO := Lib.hid ho; replace HT := Lib.hid (HT0.out.next BB.out); clear ho hg)
            with_reducible refine Calls.mono (C2.out _ HT.out) ?_
            rintro e w' ⟨rfl, rfl⟩
            go_wp2_with fail
            with_reducible refine Calls.mono (C3.out _ HT.out) ?_
            rintro e w' ⟨rfl, rfl⟩
            go_wp2_with (at_builtin; refine wpList_append_strs rfl _ _ rfl rfl w.heap.size V2 ((P0 ++ [thousand]) ++ [x1, hundred]) rfl (HO.out.next ((Below.refl _ _).alloc (Nat.le_refl _) _)) (some ⟨w2.heap.size, 0, none⟩) 1 1 [x2 ++ [45] ++ x3] rfl rfl (fun h => by cases h) (by rw [show bs x2 ++ (⟨#[45]⟩ : ByteArray) ++ bs x3 = bs (x2 ++ [45] ++ x3) from by rw [← bs_append, ← bs_append]; rfl]; exact ssl_new _ _ [x2 ++ [45] ++ x3]) (by have := HPL.out; first | (simp; done) | (simp; omega) | omega) (by have := BB.out.size; first | (simp; done) | (simp; omega) | omega) ?_; intro V9 w9 ho hg; replace BB := Lib.hid (grown_below BB.out hg HO.out.block); replace HO := Lib.hid ho; replace HT := Lib.hid (HT0.out.next BB.out); clear ho hg)
            go_ret
            exact ⟨_, rfl, by rw [HE.out]; exact HO.out, BB.out⟩
      · have hi1 : (r : Int) / 100 = 0 := by omega
        have e0 : r % 100 = r := by omega
        have HD2 := Lib.hid (show D = (P0 ++ [thousand]) ++ (if r < 20 ∨ r % 10 = 0 then [wordOf 0 r] else [wordOf 0 (r - r % 10) ++ [45] ++ wordOf 0 (r % 10)]) by rw [HDr, if_neg h0, if_neg (fun h => h0 h.1), e0]; simp)
        clear HDr e0
        by_cases ha : r < 20 ∨ r % 10 = 0
        · have z2 := zW.out r (by omega)
          have C2 := Lib.hid (fun W T => CW.out r (by omega) r rfl W T)
          have HE := Lib.hid (show D = (P0 ++ [thousand]) ++ [wordOf 0 r] by rw [HD2.out, if_pos ha])
          generalize wordOf 0 r = x2 at *
          by_cases hb : r < 20
          · clear ha
            go_enter Tryd.func53, Tryd.ntmps53
            go_wp2_with fail
            with_reducible refine Calls.mono CQ.out ?_
            rintro e w1 ⟨v, rfl, ho, hb⟩
            have HO := Lib.hid ho
            have BB := Lib.hid hb
            have HT := Lib.hid (HT0.out.next hb)
            clear ho hb
            go_wp2_with (at_builtin; refine wpList_append_strs rfl _ _ rfl rfl w.heap.size v (P0) rfl (HO.out.next ((Below.refl _ _).alloc (Nat.le_refl _) _)) (some ⟨w1.heap.size, 0, none⟩) 1 1 [thousand] rfl rfl (fun h => by cases h) (ssl_new _ _ [thousand]) (by have := HPL.out; first | (simp; done) | (simp; omega) | omega) (by have := BB.out.size; first | (simp; done) | (simp; omega) | omega) ?_; intro V1 w4 ho hg; replace BB := Lib.hid (grown_below BB.out hg HO.out.block); replace HO := Lib.hid ho; replace HT := Lib.hid (HT0.out.next BB.out); clear ho hg)
            with_reducible refine Calls.mono (C2.out _ HT.out) ?_
            rintro e w' ⟨rfl, rfl⟩
            go_wp2_with (at_builtin; refine wpList_append_strs rfl _ _ rfl rfl w.heap.size V1 ((P0 ++ [thousand])) rfl (HO.out.next ((Below.refl _ _).alloc (Nat.le_refl _) _)) (some ⟨w4.heap.size, 0, none⟩) 1 1 [x2] rfl rfl (fun h => by cases h) (ssl_new _ _ [x2]) (by have := HPL.out; first | (simp; done) | (simp; omega) | omega) (by have := BB.out.size; first | (simp; done) | (simp; omega) | omega) ?_; intro V9 w9 ho hg; replace BB := Lib.hid (grown_below BB.out hg HO.out.block); replace HO := Lib.hid ho; replace HT := Lib.hid (HT0.out.next BB.out); clear ho hg)
            go_ret
            exact ⟨_, rfl, by rw [HE.out]; exact HO.out, BB.out⟩
          · have hc : (r : Int) % 10 = 0 := by omega
            clear ha
            go_enter Tryd.func53, Tryd.ntmps53
            go_wp2_with fail
            with_reducible refine Calls.mono CQ.out ?_
            rintro e w1 ⟨v, rfl, ho, hb⟩
            have HO := Lib.hid ho
            have BB := Lib.hid hb
            have HT := Lib.hid (HT0.out.next hb)
            clear ho hb
            go_wp2_with (at_builtin; refine wpList_append_strs rfl _ _ rfl rfl w.heap.size v (P0) rfl (HO.out.next ((Below.refl _ _).alloc (Nat.le_refl _) _)) (some ⟨w1.heap.size, 0, none⟩) 1 1 [thousand] rfl rfl (fun h => by cases h) (ssl_new _ _ [thousand]) (by have := HPL.out; first | (simp; done) | (simp; omega) | omega) (by have := BB.out.size; first | (simp; done) | (simp; omega) | omega) ?_; intro V1 w4 ho hg; replace BB := Lib.hid (grown_below BB.out hg HO.out.block); replace HO := Lib.hid ho; replace HT := Lib.hid (HT0.out.next BB.out); clear ho hg)
            with_reducible refine Calls.mono (C2.out _ HT.out) ?_
            rintro e w' ⟨rfl, rfl⟩
            go_wp2_with (at_builtin; refine wpList_append_strs rfl _ _ rfl rfl w.heap.size V1 ((P0 ++ [thousand])) rfl (HO.out.next ((Below.refl _ _).alloc (Nat.le_refl _) _)) (some ⟨w4.heap.size, 0, none⟩) 1 1 [x2] rfl rfl (fun h => by cases h) (ssl_new _ _ [x2]) (by have := HPL.out; first | (simp; done) | (simp; omega) | omega) (by have := BB.out.size; first | (simp; done) | (simp; omega) | omega) ?_; intro V9 w9 ho hg; replace BB := Lib.hid (grown_below BB.out hg HO.out.block); replace HO := Lib.hid ho; replace HT := Lib.hid (HT0.out.next BB.out); clear ho hg)
            go_ret
            exact ⟨_, rfl, by rw [HE.out]; exact HO.out, BB.out⟩
        · obtain ⟨d, hd⟩ : ∃ d, r % 10 = d := ⟨_, rfl⟩
          obtain ⟨u, hu⟩ : ∃ u, r - d = u := ⟨_, rfl⟩
          have z2 := zW.out u (by omega)
          have C2 := Lib.hid (fun W T => CW.out u (by omega) u rfl W T)
          have z3 := zW.out d (by omega)
          have C3 := Lib.hid (fun W T => CW.out d (by omega) d rfl W T)
          have HE := Lib.hid (show D = (P0 ++ [thousand]) ++ [wordOf 0 u ++ [45] ++ wordOf 0 d] by rw [HD2.out, if_neg ha, hd, hu])
          have e1 : (r : Int) % 10 = d := by omega
          have e2 : (r : Int) - d = u := by omega
          have e3 : ((d : Int) == 0) = false := by simp; omega
          have e4 : ¬ (r : Int) < 20 := by omega
          clear ha hd hu
          generalize wordOf 0 u = x2 at *
          generalize wordOf 0 d = x3 at *
          go_enter Tryd.func53, Tryd.ntmps53
          go_wp2_with fail
          with_reducible refine Calls.mono CQ.out ?_
          rintro e w1 ⟨v, rfl, ho, hb⟩
          have HO := Lib.hid ho
          have BB := Lib.hid hb
          have HT := Lib.hid (HT0.out.next hb)
          clear ho hb
          go_wp2_with (at_builtin; refine wpList_append_strs rfl _ _ rfl rfl w.heap.size v (P0) rfl (HO.out.next ((Below.refl _ _).alloc (Nat.le_refl _) _)) (some ⟨w1.heap.size, 0, none⟩) 1 1 [thousand] rfl rfl (fun h => by cases h) (ssl_new _ _ [thousand]) (by have := HPL.out; first | (simp; done) | (simp; omega) | omega) (by have := BB.out.size; first | (simp; done) | (simp; omega) | omega) ?_; intro V1 w4 ho hg; replace BB := Lib.hid (grown_below BB.out hg HO.out.block); replace HO := Lib.hid ho; replace HT := Lib.hid (HT0.out.next BB.out); clear ho hg)
          with_reducible refine Calls.mono (C2.out _ HT.out) ?_
          rintro e w' ⟨rfl, rfl⟩
          go_wp2_with fail
          with_reducible refine Calls.mono (C3.out _ HT.out) ?_
          rintro e w' ⟨rfl, rfl⟩
          go_wp2_with (at_builtin; refine wpList_append_strs rfl _ _ rfl rfl w.heap.size V1 ((P0 ++ [thousand])) rfl (HO.out.next ((Below.refl _ _).alloc (Nat.le_refl _) _)) (some ⟨w4.heap.size, 0, none⟩) 1 1 [x2 ++ [45] ++ x3] rfl rfl (fun h => by cases h) (by rw [show bs x2 ++ (⟨#[45]⟩ : ByteArray) ++ bs x3 = bs (x2 ++ [45] ++ x3) from by rw [← bs_append, ← bs_append]; rfl]; exact ssl_new _ _ [x2 ++ [45] ++ x3]) (by have := HPL.out; first | (simp; done) | (simp; omega) | omega) (by have := BB.out.size; first | (simp; done) | (simp; omega) | omega) ?_; intro V9 w9 ho hg; replace BB := Lib.hid (grown_below BB.out hg HO.out.block); replace HO := Lib.hid ho; replace HT := Lib.hid (HT0.out.next BB.out); clear ho hg)
          go_ret
          exact ⟨_, rfl, by rw [HE.out]; exact HO.out, BB.out⟩
  · have e : en n = enS n := if_neg hq0
    rw [e]
    exact englishWords_s n n rfl (by omega) w T
end Wo
end Go.Proofs.YtebdpdmkehfgfaaDoor
