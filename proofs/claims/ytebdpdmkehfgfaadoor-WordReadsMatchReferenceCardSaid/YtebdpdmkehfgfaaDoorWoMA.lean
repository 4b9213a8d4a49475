/- The words of a thousand and more in Spanish. -/
import Derived.Test.YtebdpdmkehfgfaaDoorWoL
set_option linter.unusedVariables false
set_option linter.unusedSimpArgs false
namespace Go.Proofs.YtebdpdmkehfgfaaDoor
open Go.RowKit
namespace Wo
set_option maxRecDepth 100000 in
set_option maxHeartbeats 4000000 in
theorem spanishWords_1 (n q r : Nat) (hn : n < 1000000) (hq : n / 1000 = q) (hr : n % 1000 = r) (q1 : q = 1) (w : World) (T : Tab w) : Calls Tryd.prog 59 #[.int .i64 n] w fun e w' => ∃ v, e = .returned v ∧ OwnS w' w.heap.size v (es n) ∧ Below w.heap.size w w' := by
  have hqi : (n : Int) / 1000 = q := by omega
  have hri : (n : Int) % 1000 = r := by omega
  have r999 : r < 1000 := by omega
  have q999 : q < 1000 := by omega
  have HT0 := Lib.hid T
  have HT := Lib.hid T
  have CW := Lib.hid (fun (m : Nat) (hm : m < 100) (M : Int) (hM : M = (m : Int)) W T => word_any 2 m 3 M (by decide) rfl hM hm W T)
  have zW := Lib.hid (fun (m : Nat) (hm : m < 100) => show (bs (wordOf 2 m)).size ≤ 20 by rw [bs_size]; exact word_small (by decide) hm)
  have HO := Lib.hid (ownS_nil w w.heap.size)
  have HPL := Lib.hid (show ([] : List B).length ≤ 4 from by decide)
  have BB := Lib.hid (Below.refl w.heap.size w)
  have HDr : es n = ([] : List B) ++ mil :: (if r = 0 then [] else esS r) := by
    unfold es
    rw [hq, hr]
    exact (if_pos (by omega)).trans (by rw [if_neg (by omega)])
  generalize es n = D at *
  subst q1
  clear T hq hr hn
  by_cases hr0 : r = 0
  · subst hr0
    have HE := Lib.hid (show D = (([] : List B) ++ [mil]) from HDr.trans (by simp))
    clear HDr
    go_enter Tryd.func59, Tryd.ntmps59
    go_wp2_with (at_builtin; refine wpList_append_strs rfl _ _ rfl rfl w.heap.size (.slice none 0 0) (([] : List B)) rfl (HO.out.next ((Below.refl _ _).alloc (Nat.le_refl _) _)) (some ⟨w.heap.size, 0, none⟩) 1 1 [mil] rfl rfl (fun h => by cases h) (ssl_new _ _ [mil]) (by have := HPL.out; first | (simp; done) | (simp; omega) | omega) (by have := BB.out.size; first | (simp; done) | (simp; omega) | omega) ?_; intro V1 w4 ho hg; replace BB := Lib.hid (grown_below BB.out hg HO.out.block); replace HO := Lib.hid ho; replace HT := Lib.hid (HT0.out.next BB.out); clear ho hg)
    go_ret
    exact ⟨_, rfl, by rw [HE.out]; exact HO.out, BB.out⟩
  · have er0 : ((r : Int) == 0) = false := by simp; omega
    rw [if_neg hr0] at HDr
    by_cases h100 : r = 100
    · subst h100
      have HE := Lib.hid (show D = (([] : List B) ++ [mil]) ++ [cien] from by rw [HDr]; simp; rfl)
      clear HDr
      go_enter Tryd.func59, Tryd.ntmps59
      go_upto_region 13 with (at_builtin; refine wpList_append_strs rfl _ _ rfl rfl w.heap.size (.slice none 0 0) (([] : List B)) rfl (HO.out.next ((Below.refl _ _).alloc (Nat.le_refl _) _)) (some ⟨w.heap.size, 0, none⟩) 1 1 [mil] rfl rfl (fun h => by cases h) (ssl_new _ _ [mil]) (by have := HPL.out; first | (simp; done) | (simp; omega) | omega) (by have := BB.out.size; first | (simp; done) | (simp; omega) | omega) ?_; intro V1 w4 ho hg; replace BB := Lib.hid (grown_below BB.out hg HO.out.block); replace HO := Lib.hid ho; replace HT := Lib.hid (HT0.out.next BB.out); clear ho hg)
      go_wp2_with (at_builtin; refine wpList_append_strs rfl _ _ rfl rfl w.heap.size V1 ((([] : List B) ++ [mil])) rfl (HO.out.next ((Below.refl _ _).alloc (Nat.le_refl _) _)) (some ⟨w4.heap.size, 0, none⟩) 1 1 [cien] rfl rfl (fun h => by cases h) (ssl_new _ _ [cien]) (by have := HPL.out; first | (simp; done) | (simp; omega) | omega) (by have := BB.out.size; first | (simp; done) | (simp; omega) | omega) ?_; intro V9 w9 ho hg; replace BB := Lib.hid (grown_below BB.out hg HO.out.block); replace HO := Lib.hid ho; replace HT := Lib.hid (HT0.out.next BB.out); clear ho hg)
      go_ret
      exact ⟨_, rfl, by rw [HE.out]; exact HO.out, BB.out⟩
    · have h100i : ((r : Int) == 100) = false := by simp; omega
      replace HDr : D = (([] : List B) ++ [mil]) ++ ((if r / 100 > 0 then [hundreds.getD (r / 100 - 1) []] else []) ++ (if r / 100 > 0 ∧ r % 100 = 0 then [] else if r % 100 < 20 ∨ r % 10 = 0 then [wordOf 2 (r % 100)] else if r % 100 / 10 = 2 then [veinti ++ wordOf 2 (r % 10)] else [wordOf 2 (r % 100 - r % 10), yy, wordOf 2 (r % 10)])) := by rw [HDr, show esS r = (if r / 100 > 0 then [hundreds.getD (r / 100 - 1) []] else []) ++ (if r / 100 > 0 ∧ r % 100 = 0 then [] else if r % 100 < 20 ∨ r % 10 = 0 then [wordOf 2 (r % 100)] else if r % 100 / 10 = 2 then [veinti ++ wordOf 2 (r % 10)] else [wordOf 2 (r % 100 - r % 10), yy, wordOf 2 (r % 10)]) from if_neg h100]; simp
      by_cases h0 : r / 100 > 0
      · obtain ⟨h, hh⟩ : ∃ h, r / 100 = h := ⟨_, rfl⟩
        obtain ⟨t, ht⟩ : ∃ t, r % 100 = t := ⟨_, rfl⟩
        have ht2 : r % 10 = t % 10 := by omega
        have hi1 : (r : Int) / 100 = h := by omega
        have hi2 : (r : Int) % 100 = t := by omega
        rw [hh, ht, ht2] at HDr
        rw [hh] at h0
        have h9 : h < 10 := by omega
        have t99 : t < 100 := by omega
        obtain ⟨g, hg⟩ : ∃ g, h = g + 1 := ⟨h - 1, by omega⟩
        rw [if_pos h0] at HDr
        obtain ⟨x1, hx1⟩ : ∃ x, hundreds.getD (h - 1) [] = x := ⟨_, rfl⟩
        have HX1 := Lib.hid hx1
        have tc := HT0.out.hund (h - 1) (by omega)
        have tl := HT0.out.lt
        rw [hx1] at HDr tc
        have hgi : (h : Int) - 1 = g := by omega
        rw [show h - 1 = g by omega] at tc
        clear hh ht ht2 hx1
        by_cases hz : t = 0
        · subst hz
          have HE := Lib.hid (show D = (([] : List B) ++ [mil]) ++ [x1] by rw [HDr, if_pos ⟨h0, rfl⟩]; try simp)
          clear HDr
          go_enter Tryd.func59, Tryd.ntmps59
          go_upto_region 13 with (at_builtin; refine wpList_append_strs rfl _ _ rfl rfl w.heap.size (.slice none 0 0) (([] : List B)) rfl (HO.out.next ((Below.refl _ _).alloc (Nat.le_refl _) _)) (some ⟨w.heap.size, 0, none⟩) 1 1 [mil] rfl rfl (fun h => by cases h) (ssl_new _ _ [mil]) (by have := HPL.out; first | (simp; done) | (simp; omega) | omega) (by have := BB.out.size; first | (simp; done) | (simp; omega) | omega) ?_; intro V1 w4 ho hg; replace BB := Lib.hid (grown_below BB.out hg HO.out.block); replace HO := Lib.hid ho; replace HT := Lib.hid (HT0.out.next BB.out); clear ho hg)
          have tc := (HT.out.hund (h - 1) (by omega))
          rw [HX1.out, show h - 1 = g by omega] at tc
          have tl := HT.out.lt
          go_wp2_with (at_builtin; refine wpList_append_strs rfl _ _ rfl rfl w.heap.size V1 ((([] : List B) ++ [mil])) rfl (HO.out.next ((Below.refl _ _).alloc (Nat.le_refl _) _)) (some ⟨w4.heap.size, 0, none⟩) 1 1 [x1] rfl rfl (fun h => by cases h) (ssl_new _ _ [x1]) (by have := HPL.out; first | (simp; done) | (simp; omega) | omega) (by have := BB.out.size; first | (simp; done) | (simp; omega) | omega) ?_; intro V2 w2 ho hg; replace BB := Lib.hid (grown_below BB.out hg HO.out.block); replace HO := Lib.hid ho; replace HT := Lib.hid (HT0.out.next BB.out); clear ho hg)
          go_ret
          exact ⟨_, rfl, by rw [HE.out]; exact HO.out, BB.out⟩
        · have e0 : ((t : Int) == 0) = false := by simp; omega
          have HD2 := Lib.hid (show D = (([] : List B) ++ [mil]) ++ [x1] ++ (if t < 20 ∨ t % 10 = 0 then [wordOf 2 t] else if t / 10 = 2 then [veinti ++ wordOf 2 (t % 10)] else [wordOf 2 (t - t % 10), yy, wordOf 2 (t % 10)]) by rw [HDr, if_neg (fun h => hz h.2)]; try simp)
          clear HDr
          by_cases ha : t < 20 ∨ t % 10 = 0
          · have C2 := Lib.hid (fun W T => CW.out t (by omega) t rfl W T)
            have HE := Lib.hid (show D = (([] : List B) ++ [mil]) ++ [x1] ++ [wordOf 2 t] by rw [HD2.out, if_pos ha])
            generalize wordOf 2 t = x2 at *
            by_cases hb : t < 20
            · have hb2 : (t : Int) < 20 := by omega
              clear ha
              go_enter Tryd.func59, Tryd.ntmps59
              go_upto_region 13 with (at_builtin; refine wpList_append_strs rfl _ _ rfl rfl w.heap.size (.slice none 0 0) (([] : List B)) rfl (HO.out.next ((Below.refl _ _).alloc (Nat.le_refl _) _)) (some ⟨w.heap.size, 0, none⟩) 1 1 [mil] rfl rfl (fun h => by cases h) (ssl_new _ _ [mil]) (by have := HPL.out; first | (simp; done) | (simp; omega) | omega) (by have := BB.out.size; first | (simp; done) | (simp; omega) | omega) ?_; intro V1 w4 ho hg; replace BB := Lib.hid (grown_below BB.out hg HO.out.block); replace HO := Lib.hid ho; replace HT := Lib.hid (HT0.out.next BB.out); clear ho hg)
              have tc := (HT.out.hund (h - 1) (by omega))
              rw [HX1.out, show h - 1 = g by omega] at tc
              have tl := HT.out.lt
              go_wp2_with (at_builtin; refine wpList_append_strs rfl _ _ rfl rfl w.heap.size V1 ((([] : List B) ++ [mil])) rfl (HO.out.next ((Below.refl _ _).alloc (Nat.le_refl _) _)) (some ⟨w4.heap.size, 0, none⟩) 1 1 [x1] rfl rfl (fun h => by cases h) (ssl_new _ _ [x1]) (by have := HPL.out; first | (simp; done) | (simp; omega) | omega) (by have := BB.out.size; first | (simp; done) | (simp; omega) | omega) ?_; intro V2 w2 ho hg; replace BB := Lib.hid (grown_below BB.out hg HO.out.block); replace HO := Lib.hid ho; replace HT := Lib.hid (HT0.out.next BB.out); clear ho hg)
              with_reducible refine Calls.mono (C2.out _ HT.out) ?_
              rintro e w' ⟨rfl, rfl⟩
              go_wp2_with (at_builtin; refine wpList_append_strs rfl _ _ rfl rfl w.heap.size V2 ((([] : List B) ++ [mil]) ++ [x1]) rfl (HO.out.next ((Below.refl _ _).alloc (Nat.le_refl _) _)) (some ⟨w2.heap.size, 0, none⟩) 1 1 [x2] rfl rfl (fun h => by cases h) (ssl_new _ _ [x2]) (by have := HPL.out; first | (simp; done) | (simp; omega) | omega) (by have := BB.out.size; first | (simp; done) | (simp; omega) | omega) ?_; intro V9 w9 ho hg; replace BB := Lib.hid (grown_below BB.out hg HO.out.block); replace HO := Lib.hid ho; replace HT := Lib.hid (HT0.out.next BB.out); clear ho hg)
              go_ret
              exact ⟨_, rfl, by rw [HE.out]; exact HO.out, BB.out⟩
            · have hc : (t : Int) % 10 = 0 := by omega
              have hb2 : ¬ (t : Int) < 20 := by omega
              clear ha
              go_enter Tryd.func59, Tryd.ntmps59
              go_upto_region 13 with (at_builtin; refine wpList_append_strs rfl _ _ rfl rfl w.heap.size (.slice none 0 0) (([] : List B)) rfl (HO.out.next ((Below.refl _ _).alloc (Nat.le_refl _) _)) (some ⟨w.heap.size, 0, none⟩) 1 1 [mil] rfl rfl (fun h => by cases h) (ssl_new _ _ [mil]) (by have := HPL.out; first | (simp; done) | (simp; omega) | omega) (by have := BB.out.size; first | (simp; done) | (simp; omega) | omega) ?_; intro V1 w4 ho hg; replace BB := Lib.hid (grown_below BB.out hg HO.out.block); replace HO := Lib.hid ho; replace HT := Lib.hid (HT0.out.next BB.out); clear ho hg)
              have tc := (HT.out.hund (h - 1) (by omega))
              rw [HX1.out, show h - 1 = g by omega] at tc
              have tl := HT.out.lt
              go_wp2_with (at_builtin; refine wpList_append_strs rfl _ _ rfl rfl w.heap.size V1 ((([] : List B) ++ [mil])) rfl (HO.out.next ((Below.refl _ _).alloc (Nat.le_refl _) _)) (some ⟨w4.heap.size, 0, none⟩) 1 1 [x1] rfl rfl (fun h => by cases h) (ssl_new _ _ [x1]) (by have := HPL.out; first | (simp; done) | (simp; omega) | omega) (by have := BB.out.size; first | (simp; done) | (simp; omega) | omega) ?_; intro V2 w2 ho hg; replace BB := Lib.hid (grown_below BB.out hg HO.out.block); replace HO := Lib.hid ho; replace HT := Lib.hid (HT0.out.next BB.out); clear ho hg)
              with_reducible refine Calls.mono (C2.out _ HT.out) ?_
              rintro e w' ⟨rfl, rfl⟩
              go_wp2_with (at_builtin; refine wpList_append_strs rfl _ _ rfl rfl w.heap.size V2 ((([] : List B) ++ [mil]) ++ [x1]) rfl (HO.out.next ((Below.refl _ _).alloc (Nat.le_refl _) _)) (some ⟨w2.heap.size, 0, none⟩) 1 1 [x2] rfl rfl (fun h => by cases h) (ssl_new _ _ [x2]) (by have := HPL.out; first | (simp; done) | (simp; omega) | omega) (by have := BB.out.size; first | (simp; done) | (simp; omega) | omega) ?_; intro V9 w9 ho hg; replace BB := Lib.hid (grown_below BB.out hg HO.out.block); replace HO := Lib.hid ho; replace HT := Lib.hid (HT0.out.next BB.out); clear ho hg)
              go_ret
              exact ⟨_, rfl, by rw [HE.out]; exact HO.out, BB.out⟩
          · obtain ⟨d, hd⟩ : ∃ d, t % 10 = d := ⟨_, rfl⟩
            obtain ⟨u, hu⟩ : ∃ u, t - d = u := ⟨_, rfl⟩
            have e1 : (t : Int) % 10 = d := by omega
            have e2 : (t : Int) - d = u := by omega
            have e3 : ((d : Int) == 0) = false := by simp; omega
            have e4 : ¬ (t : Int) < 20 := by omega
            have z3 := zW.out d (by omega)
            have C3 := Lib.hid (fun W T => CW.out d (by omega) d rfl W T)
            by_cases h2 : u = 20
            · have e5 : ((u : Int) == 20) = true := by rw [h2]; rfl
              have HE := Lib.hid (show D = (([] : List B) ++ [mil]) ++ [x1] ++ [veinti ++ wordOf 2 d] by rw [HD2.out, if_neg ha, if_pos (by omega), hd])
              generalize wordOf 2 d = x3 at *
              clear ha hd hu h2
              go_enter Tryd.func59, Tryd.ntmps59
              go_upto_region 13 with (at_builtin; refine wpList_append_strs rfl _ _ rfl rfl w.heap.size (.slice none 0 0) (([] : List B)) rfl (HO.out.next ((Below.refl _ _).alloc (Nat.le_refl _) _)) (some ⟨w.heap.size, 0, none⟩) 1 1 [mil] rfl rfl (fun h => by cases h) (ssl_new _ _ [mil]) (by have := HPL.out; first | (simp; done) | (simp; omega) | omega) (by have := BB.out.size; first | (simp; done) | (simp; omega) | omega) ?_; intro V1 w4 ho hg; replace BB := Lib.hid (grown_below BB.out hg HO.out.block); replace HO := Lib.hid ho; replace HT := Lib.hid (HT0.out.next BB.out); clear ho hg)
              have tc := (HT.out.hund (h - 1) (by omega))
              rw [HX1.out, show h - 1 = g by omega] at tc
              have tl := HT.out.lt
              go_wp2_with (at_builtin; refine wpList_append_strs rfl _ _ rfl rfl w.heap.size V1 ((([] : List B) ++ [mil])) rfl (HO.out.next ((Below.refl _ _).alloc (Nat.le_refl _) _)) (some ⟨w4.heap.size, 0, none⟩) 1 1 [x1] rfl rfl (fun h => by cases h) (ssl_new _ _ [x1]) (by have := HPL.out; first | (simp; done) | (simp; omega) | omega) (by have := BB.out.size; first | (simp; done) | (simp; omega) | omega) ?_; intro V2 w2 ho hg; replace BB := Lib.hid (grown_below BB.out hg HO.out.block); replace HO := Lib.hid ho; replace HT := Lib.hid (HT0.out.next BB.out); clear ho hg)
              with_reducible refine Calls.mono (C3.out _ HT.out) ?_
              rintro e w' ⟨rfl, rfl⟩
              go_wp2_with (at_builtin; refine wpList_append_strs rfl _ _ rfl rfl w.heap.size V2 ((([] : List B) ++ [mil]) ++ [x1]) rfl (HO.out.next ((Below.refl _ _).alloc (Nat.le_refl _) _)) (some ⟨w2.heap.size, 0, none⟩) 1 1 [veinti ++ x3] rfl rfl (fun h => by cases h) (by rw [show (⟨#[118, 101, 105, 110, 116, 105]⟩ : ByteArray) ++ bs x3 = bs (veinti ++ x3) from by rw [← bs_append]; rfl]; exact ssl_new _ _ [veinti ++ x3]) (by have := HPL.out; first | (simp; done) | (simp; omega) | omega) (by have := BB.out.size; first | (simp; done) | (simp; omega) | omega) ?_; intro V9 w9 ho hg; replace BB := Lib.hid (grown_below BB.out hg HO.out.block); replace HO := Lib.hid ho; replace HT := Lib.hid (HT0.out.next BB.out); clear ho hg)
              go_ret
              exact ⟨_, rfl, by rw [HE.out]; exact HO.out, BB.out⟩
            · have e5 : ((u : Int) == 20) = false := by simp; omega
              have C2 := Lib.hid (fun W T => CW.out u (by omega) u rfl W T)
              have HE := Lib.hid (show D = (([] : List B) ++ [mil]) ++ [x1] ++ [wordOf 2 u, yy, wordOf 2 d] by rw [HD2.out, if_neg ha, if_neg (by omega), hd, hu])
              generalize wordOf 2 u = x2 at *
              generalize wordOf 2 d = x3 at *
              clear ha hd hu h2
              go_enter Tryd.func59, Tryd.ntmps59
              go_upto_region 13 with (at_builtin; refine wpList_append_strs rfl _ _ rfl rfl w.heap.size (.slice none 0 0) (([] : List B)) rfl (HO.out.next ((Below.refl _ _).alloc (Nat.le_refl _) _)) (some ⟨w.heap.size, 0, none⟩) 1 1 [mil] rfl rfl (fun h => by cases h) (ssl_new _ _ [mil]) (by have := HPL.out; first | (simp; done) | (simp; omega) | omega) (by have := BB.out.size; first | (simp; done) | (simp; omega) | omega) ?_; intro V1 w4 ho hg; replace BB := Lib.hid (grown_below BB.out hg HO.out.block); replace HO := Lib.hid ho; replace HT := Lib.hid (HT0.out.next BB.out); clear ho hg)
              have tc := (HT.out.hund (h - 1) (by omega))
              rw [HX1.out, show h - 1 = g by omega] at tc
              have tl := HT.out.lt
              go_wp2_with (at_builtin; refine wpList_append_strs rfl _ _ rfl rfl w.heap.size V1 ((([] : List B) ++ [mil])) rfl (HO.out.next ((Below.refl _ _).alloc (Nat.le_refl _) _)) (some ⟨w4.heap.size, 0, none⟩) 1 1 [x1] rfl rfl (fun h => by cases h) (ssl_new _ _ [x1]) (by have := HPL.out; first | (simp; done) | (simp; omega) | omega) (by have := BB.out.size; first | (simp; done) | (simp; omega) | omega) ?_; intro V2 w2 ho hg; replace BB := Lib.hid (grown_below BB.out hg HO.out.block); replace HO := Lib.hid ho; replace HT := Lib.hid (HT0.out.next BB.out); clear ho hg)
              with_reducible refine Calls.mono (C2.out _ HT.out) ?_
              rintro e w' ⟨rfl, rfl⟩
              go_wp2_with fail
              with_reducible refine Calls.mono (C3.out _ HT.out) ?_
              rintro e w' ⟨rfl, rfl⟩
              go_wp2_with (at_builtin; refine wpList_append_strs rfl _ _ rfl rfl w.heap.size V2 ((([] : List B) ++ [mil]) ++ [x1]) rfl (HO.out.next ((Below.refl _ _).alloc (Nat.le_refl _) _)) (some ⟨w2.heap.size, 0, none⟩) 3 3 [x2, yy, x3] rfl rfl (fun h => by cases h) (ssl_new _ _ [x2, yy, x3]) (by have := HPL.out; first | (simp; done) | (simp; omega) | omega) (by have := BB.out.size; first | (simp; done) | (simp; omega) | omega) ?_; intro V9 w9 ho hg; replace BB := Lib.hid (grown_below BB.out hg HO.out.block); replace HO := Lib.hid ho; replace HT := Lib.hid (HT0.out.next BB.out); clear ho hg)
              go_ret
              exact ⟨_, rfl, by rw [HE.out]; exact HO.out, BB.out⟩
      · have hi1 : (r : Int) / 100 = 0 := by omega
        have e0 : r % 100 = r := by omega
        have HD2 := Lib.hid (show D = (([] : List B) ++ [mil]) ++ (if r < 20 ∨ r % 10 = 0 then [wordOf 2 r] else if r / 10 = 2 then [veinti ++ wordOf 2 (r % 10)] else [wordOf 2 (r - r % 10), yy, wordOf 2 (r % 10)]) by rw [HDr, if_neg h0, if_neg (fun h => h0 h.1), e0]; try simp)
        clear HDr e0
        by_cases ha : r < 20 ∨ r % 10 = 0
        · have C2 := Lib.hid (fun W T => CW.out r (by omega) r rfl W T)
          have HE := Lib.hid (show D = (([] : List B) ++ [mil]) ++ [wordOf 2 r] by rw [HD2.out, if_pos ha])
          generalize wordOf 2 r = x2 at *
          by_cases hb : r < 20
          · have hb2 : (r : Int) < 20 := by omega
            clear ha
            go_enter Tryd.func59, Tryd.ntmps59
            go_wp2_with (at_builtin; refine wpList_append_strs rfl _ _ rfl rfl w.heap.size (.slice none 0 0) (([] : List B)) rfl (HO.out.next ((Below.refl _ _).alloc (Nat.le_refl _) _)) (some ⟨w.heap.size, 0, none⟩) 1 1 [mil] rfl rfl (fun h => by cases h) (ssl_new _ _ [mil]) (by have := HPL.out; first | (simp; done) | (simp; omega) | omega) (by have := BB.out.size; first | (simp; done) | (simp; omega) | omega) ?_; intro V1 w4 ho hg; replace BB := Lib.hid (grown_below BB.out hg HO.out.block); replace HO := Lib.hid ho; replace HT := Lib.hid (HT0.out.next BB.out); clear ho hg)
            with_reducible refine Calls.mono (C2.out _ HT.out) ?_
            rintro e w' ⟨rfl, rfl⟩
            go_wp2_with (at_builtin; refine wpList_append_strs rfl _ _ rfl rfl w.heap.size V1 ((([] : List B) ++ [mil])) rfl (HO.out.next ((Below.refl _ _).alloc (Nat.le_refl _) _)) (some ⟨w4.heap.size, 0, none⟩) 1 1 [x2] rfl rfl (fun h => by cases h) (ssl_new _ _ [x2]) (by have := HPL.out; first | (simp; done) | (simp; omega) | omega) (by have := BB.out.size; first | (simp; done) | (simp; omega) | omega) ?_; intro V9 w9 ho hg; replace BB := Lib.hid (grown_below BB.out hg HO.out.block); replace HO := Lib.hid ho; replace HT := Lib.hid (HT0.out.next BB.out); clear ho hg)
            go_ret
            exact ⟨_, rfl, by rw [HE.out]; exact HO.out, BB.out⟩
          · have hc : (r : Int) % 10 = 0 := by omega
            have hb2 : ¬ (r : Int) < 20 := by omega
            clear ha
            go_enter Tryd.func59, Tryd.ntmps59
            go_wp2_with (at_builtin; refine wpList_append_strs rfl _ _ rfl rfl w.heap.size (.slice none 0 0) (([] : List B)) rfl (HO.out.next ((Below.refl _ _).alloc (Nat.le_refl _) _)) (some ⟨w.heap.size, 0, none⟩) 1 1 [mil] rfl rfl (fun h => by cases h) (ssl_new _ _ [mil]) (by have := HPL.out; first | (simp; done) | (simp; omega) | omega) (by have := BB.out.size; first | (simp; done) | (simp; omega) | omega) ?_; intro V1 w4 ho hg; replace BB := Lib.hid (grown_below BB.out hg HO.out.block); replace HO := Lib.hid ho; replace HT := Lib.hid (HT0.out.next BB.out); clear ho hg)
            with_reducible refine Calls.mono (C2.out _ HT.out) ?_
            rintro e w' ⟨rfl, rfl⟩
            go_wp2_with (at_builtin; refine wpList_append_strs rfl _ _ rfl rfl w.heap.size V1 ((([] : List B) ++ [mil])) rfl (HO.out.next ((Below.refl _ _).alloc (Nat.le_refl _) _)) (some ⟨w4.heap.size, 0, none⟩) 1 1 [x2] rfl rfl (fun h => by cases h) (ssl_new _ _ [x2]) (by have := HPL.out; first | (simp; done) | (simp; omega) | omega) (by have := BB.out.size; first | (simp; done) | (simp; omega) | omega) ?_; intro V9 w9 ho hg; replace BB := Lib.hid (grown_below BB.out hg HO.out.block); replace HO := Lib.hid ho; replace HT := Lib.hid (HT0.out.next BB.out); clear ho hg)
            go_ret
            exact ⟨_, rfl, by rw [HE.out]; exact HO.out, BB.out⟩
        · obtain ⟨d, hd⟩ : ∃ d, r % 10 = d := ⟨_, rfl⟩
          obtain ⟨u, hu⟩ : ∃ u, r - d = u := ⟨_, rfl⟩
          have e1 : (r : Int) % 10 = d := by omega
          have e2 : (r : Int) - d = u := by omega
          have e3 : ((d : Int) == 0) = false := by simp; omega
          have e4 : ¬ (r : Int) < 20 := by omega
          have z3 := zW.out d (by omega)
          have C3 := Lib.hid (fun W T => CW.out d (by omega) d rfl W T)
          by_cases h2 : u = 20
          · have e5 : ((u : Int) == 20) = true := by rw [h2]; rfl
            have HE := Lib.hid (show D = (([] : List B) ++ [mil]) ++ [veinti ++ wordOf 2 d] by rw [HD2.out, if_neg ha, if_pos (by omega), hd])
            generalize wordOf 2 d = x3 at *
            clear ha hd hu h2
            go_enter Tryd.func59, Tryd.ntmps59
            go_wp2_with (at_builtin; refine wpList_append_strs rfl _ _ rfl rfl w.heap.size (.slice none 0 0) (([] : List B)) rfl (HO.out.next ((Below.refl _ _).alloc (Nat.le_refl _) _)) (some ⟨w.heap.size, 0, none⟩) 1 1 [mil] rfl rfl (fun h => by cases h) (ssl_new _ _ [mil]) (by have := HPL.out; first | (simp; done) | (simp; omega) | omega) (by have := BB.out.size; first | (simp; done) | (simp; omega) | omega) ?_; intro V1 w4 ho hg; replace BB := Lib.hid (grown_below BB.out hg HO.out.block); replace HO := Lib.hid ho; replace HT := Lib.hid (HT0.out.next BB.out); clear ho hg)
            with_reducible refine Calls.mono (C3.out _ HT.out) ?_
            rintro e w' ⟨rfl, rfl⟩
            go_wp2_with (at_builtin; refine wpList_append_strs rfl _ _ rfl rfl w.heap.size V1 ((([] : List B) ++ [mil])) rfl (HO.out.next ((Below.refl _ _).alloc (Nat.le_refl _) _)) (some ⟨w4.heap.size, 0, none⟩) 1 1 [veinti ++ x3] rfl rfl (fun h => by cases h) (by rw [show (⟨#[118, 101, 105, 110, 116, 105]⟩ : ByteArray) ++ bs x3 = bs (veinti ++ x3) from by rw [← bs_append]; rfl]; exact ssl_new _ _ [veinti ++ x3]) (by have := HPL.out; first | (simp; done) | (simp; omega) | omega) (by have := BB.out.size; first | (simp; done) | (simp; omega) | omega) ?_; intro V9 w9 ho hg; replace BB := Lib.hid (grown_below BB.out hg HO.out.block); replace HO := Lib.hid ho; replace HT := Lib.hid (HT0.out.next BB.out); clear ho hg)
            go_ret
            exact ⟨_, rfl, by rw [HE.out]; exact HO.out, BB.out⟩
          · have e5 : ((u : Int) == 20) = false := by simp; omega
            have C2 := Lib.hid (fun W T => CW.out u (by omega) u rfl W T)
            have HE := Lib.hid (show D = (([] : List B) ++ [mil]) ++ [wordOf 2 u, yy, wordOf 2 d] by rw [HD2.out, if_neg ha, if_neg (by omega), hd, hu])
            generalize wordOf 2 u = x2 at *
            generalize wordOf 2 d = x3 at *
            clear ha hd hu h2
            go_enter Tryd.func59, Tryd.ntmps59
            go_wp2_with (at_builtin; refine wpList_append_strs rfl _ _ rfl rfl w.heap.size (.slice none 0 0) (([] : List B)) rfl (HO.out.next ((Below.refl _ _).alloc (Nat.le_refl _) _)) (some ⟨w.heap.size, 0, none⟩) 1 1 [mil] rfl rfl (fun h => by cases h) (ssl_new _ _ [mil]) (by have := HPL.out; first | (simp; done) | (simp; omega) | omega) (by have := BB.out.size; first | (simp; done) | (simp; omega) | omega) ?_; intro V1 w4 ho hg; replace BB := Lib.hid (grown_below BB.out hg HO.out.block); replace HO := Lib.hid ho; replace HT := Lib.hid (HT0.out.next BB.out); clear ho hg)
            with_reducible refine Calls.mono (C2.out _ HT.out) ?_
            rintro e w' ⟨rfl, rfl⟩
            go_wp2_with fail
            with_reducible refine Calls.mono (C3.out _ HT.out) ?_
            rintro e w' ⟨rfl, rfl⟩
            go_wp2_with (at_builtin; refine wpList_append_strs rfl _ _ rfl rfl w.heap.size V1 ((([] : List B) ++ [mil])) rfl (HO.out.next ((Below.refl _ _).alloc (Nat.le_refl _) _)) (some ⟨w4.heap.size, 0, none⟩) 3 3 [x2, yy, x3] rfl rfl (fun h => by cases h) (ssl_new _ _ [x2, yy, x3]) (by have := HPL.out; first | (simp; done) | (simp; omega) | omega) (by have := BB.out.size; first | (simp; done) | (simp; omega) | omega) ?_; intro V9 w9 ho hg; replace BB := Lib.hid (grown_below BB.out hg HO.out.block); replace HO := Lib.hid ho; replace HT := Lib.hid (HT0.out.next BB.out); clear ho hg)
            go_ret
            exact ⟨_, rfl, by rw [HE.out]; exact HO.out, BB.out⟩
end Wo
end Go.Proofs.YtebdpdmkehfgfaaDoor
