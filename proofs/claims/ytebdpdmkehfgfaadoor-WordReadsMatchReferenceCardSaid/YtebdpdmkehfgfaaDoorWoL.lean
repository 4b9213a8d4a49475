/- The words of numbers in Spanish. -/
import Derived.Test.YtebdpdmkehfgfaaDoorWoK
set_option linter.unusedVariables false
set_option linter.unusedSimpArgs false
namespace Go.Proofs.YtebdpdmkehfgfaaDoor
open Go.RowKit
namespace Wo
theorem OwnS.row {w : World} {B0 g n c : Nat} {l : List B} (h : OwnS w B0 (.slice (some ⟨g, 0, none⟩) n c) l) : B0 ≤ g ∧ ∃ cur : Array Value, Row w g 9 cur.toList ∧ l.length ≤ c ∧ c ≤ maxLen ∧ cur.size = c * 1 ∧ cur.toList.take (l.length * 1) = l.map sV := by
  rcases h.2 with ⟨h1, _⟩ | ⟨g', cap, cur, h1, h2, h3, h4, h5, h6, h7⟩
  · cases h1
  · cases h1
    exact ⟨h2, cur, by show _ = _; rw [h3], h4, h5, h6, h7⟩
theorem OwnS.set {w : World} {B0 g n c : Nat} {l : List B} (h : OwnS w B0 (.slice (some ⟨g, 0, none⟩) n c) l) (hn : n = l.length) (j : Nat) (x : B) : OwnS (w.setCell ⟨g, j, none⟩ (sV x)) B0 (.slice (some ⟨g, 0, none⟩) n c) (l.set j x) := by
  obtain ⟨h1, cur, hr, h2, h3, h4, h5⟩ := h.row
  have hs := hr.set j (sV x)
  subst hn
  refine ⟨by simp, .inr ⟨g, c, (cur.toList.set j (sV x)).toArray, by rw [List.length_set], h1, hs, by rw [List.length_set]; exact h2, h3, by simpa using h4, ?_⟩⟩
  rw [List.length_set, List.take_set, h5, List.map_set]
theorem OwnS.frozen {w : World} {B0 g n c : Nat} {l : List B} (h : OwnS w B0 (.slice (some ⟨g, 0, none⟩) n c) l) (j : Nat) : w.frozen? ⟨g, j, none⟩ = false := by
  obtain ⟨_, cur, hr, _⟩ := h.row
  exact hr.frozen j
theorem esLast_yes : ∀ (l : List B) (k : Nat), l.length = k + 1 → (un ++ [111]).isSuffixOf (l.getD k []) = true → esLast l = l.set k (trim [111] (l.getD k []))
  | [], k, h, _ => by simp at h
  | [s], k, h, hs => by
    obtain rfl : k = 0 := by simp at h; omega
    have hs' : (un ++ [111]).isSuffixOf s = true := hs
    show [if (un ++ [111]).isSuffixOf s then trim [111] s else s] = [trim [111] s]
    rw [hs', if_pos rfl]
  | s :: a :: l, k, h, hs => by
    obtain ⟨j, rfl⟩ : ∃ j, k = j + 1 := ⟨k - 1, by simp at h; omega⟩
    have ih := esLast_yes (a :: l) j (by simp at h ⊢; omega) hs
    show s :: esLast (a :: l) = s :: (a :: l).set j (trim [111] ((a :: l).getD j []))
    rw [ih]
theorem esLast_no : ∀ (l : List B) (k : Nat), l.length = k + 1 → (un ++ [111]).isSuffixOf (l.getD k []) = false → esLast l = l
  | [], k, h, _ => by simp at h
  | [s], k, h, hs => by
    obtain rfl : k = 0 := by simp at h; omega
    have hs' : (un ++ [111]).isSuffixOf s = false := hs
    show [if (un ++ [111]).isSuffixOf s then trim [111] s else s] = [s]
    rw [hs', if_neg (by simp)]
  | s :: a :: l, k, h, hs => by
    obtain ⟨j, rfl⟩ : ∃ j, k = j + 1 := ⟨k - 1, by simp at h; omega⟩
    have ih := esLast_no (a :: l) j (by simp at h ⊢; omega) hs
    show s :: esLast (a :: l) = s :: a :: l
    rw [ih]
set_option maxRecDepth 100000 in
set_option maxHeartbeats 4000000 in
theorem spanishWords_s (n : Nat) (N : Int) (hN : N = n) (hn : n < 1000) (w : World) (T : Tab w) : Calls Tryd.prog 59 #[.int .i64 N] w fun e w' => ∃ v, e = .returned v ∧ OwnS w' w.heap.size v (esS n) ∧ Below w.heap.size w w' := by
  subst hN
  have HT0 := Lib.hid T
  have HT := Lib.hid T
  have BB := Lib.hid (Below.refl w.heap.size w)
  have HO := Lib.hid (ownS_nil w w.heap.size)
  have HPL := Lib.hid (show ([] : List B).length ≤ 8 from by decide)
  have CW := Lib.hid (fun (m : Nat) (hm : m < 100) (M : Int) (hM : M = (m : Int)) W T => word_any 2 m 3 M (by decide) rfl hM hm W T)
  have zW := Lib.hid (fun (m : Nat) (hm : m < 100) => show (bs (wordOf 2 m)).size ≤ 20 by rw [bs_size]; exact word_small (by decide) hm)
  have hq : (n : Int) / 1000 = 0 := by omega
  by_cases h100 : n = 100
  · subst h100
    have HE := Lib.hid (show esS 100 = [] ++ [cien] from rfl)
    generalize esS 100 = D at *
    clear T
    go_enter Tryd.func59, Tryd.ntmps59
    go_wp2_with (at_builtin; refine wpList_append_strs rfl _ _ rfl rfl w.heap.size (.slice none 0 0) (([] : List B)) rfl (HO.out.next ((Below.refl _ _).alloc (Nat.le_refl _) _)) (some ⟨w.heap.size, 0, none⟩) 1 1 [cien] rfl rfl (fun h => by cases h) (ssl_new _ _ [cien]) (by have := HPL.out; first | (simp; done) | (simp; omega) | omega) (by have := BB.out.size; first | (simp; done) | (simp; omega) | omega) ?_; intro V9 w9 ho hg; replace BB := Lib.hid (grown_below BB.out hg HO.out.block); replace HO := Lib.hid ho; replace HT := Lib.hid (HT0.out.next BB.out); clear ho hg)
    go_ret
    exact ⟨_, rfl, by rw [HE.out]; exact HO.out, BB.out⟩
  · have h100i : ((n : Int) == 100) = false := by simp; omega
    have HDr : esS n = [] ++ ((if n / 100 > 0 then [hundreds.getD (n / 100 - 1) []] else []) ++ (if n / 100 > 0 ∧ n % 100 = 0 then [] else if n % 100 < 20 ∨ n % 10 = 0 then [wordOf 2 (n % 100)] else if n % 100 / 10 = 2 then [veinti ++ wordOf 2 (n % 10)] else [wordOf 2 (n % 100 - n % 10), yy, wordOf 2 (n % 10)])) := if_neg h100
    rw [List.nil_append] at HDr
    generalize esS n = D at *
    clear T
    by_cases h0 : n / 100 > 0
    · obtain ⟨h, hh⟩ : ∃ h, n / 100 = h := ⟨_, rfl⟩
      obtain ⟨t, ht⟩ : ∃ t, n % 100 = t := ⟨_, rfl⟩
      have ht2 : n % 10 = t % 10 := by omega
      have hi1 : (n : Int) / 100 = h := by omega
      have hi2 : (n : Int) % 100 = t := by omega
      rw [hh, ht, ht2] at HDr
      rw [hh] at h0
      have h9 : h < 10 := by omega
      have t99 : t < 100 := by omega
      obtain ⟨g, hg⟩ : ∃ g, h = g + 1 := ⟨h - 1, by omega⟩
      rw [if_pos h0] at HDr
      obtain ⟨x1, hx1⟩ : ∃ x, hundreds.getD (h - 1) [] = x := ⟨_, rfl⟩
      have HX1 := Lib.hid hx1
      have tc := HT0.out.hund (h - 1) (by omega)
      have tl := HT0.out.lt
      rw [hx1] at HDr tc
      have hgi : (h : Int) - 1 = g := by omega
      rw [show h - 1 = g by omega] at tc
      clear hh ht ht2 hx1
      by_cases hz : t = 0
      · subst hz
        have HE := Lib.hid (show D = ([] : List B) ++ [x1] by rw [HDr, if_pos ⟨h0, rfl⟩]; try simp)
        clear HDr
        go_enter Tryd.func59, Tryd.ntmps59
        go_wp2_with (at_builtin; refine wpList_append_strs rfl _ _ rfl rfl w.heap.size (.slice none 0 0) (([] : List B)) rfl (HO.out.next ((Below.refl _ _).alloc (Nat.le_refl _) _)) (some ⟨w.heap.size, 0, none⟩) 1 1 [x1] rfl rfl (fun h => by cases h) (ssl_new _ _ [x1]) (by have := HPL.out; first | (simp; done) | (simp; omega) | omega) (by have := BB.out.size; first | (simp; done) | (simp; omega) | omega) ?_; intro V2 w2 ho hg; replace BB := Lib.hid (grown_below BB.out hg HO.out.block); replace HO := Lib.hid ho; replace HT := Lib.hid (HT0.out.next BB.out); clear ho hg)
        go_ret
        exact ⟨_, rfl, by rw [HE.out]; exact HO.out, BB.out⟩
      · have e0 : ((t : Int) == 0) = false := by simp; omega
        have HD2 := Lib.hid (show D = ([] : List B) ++ [x1] ++ (if t < 20 ∨ t % 10 = 0 then [wordOf 2 t] else if t / 10 = 2 then [veinti ++ wordOf 2 (t % 10)] else [wordOf 2 (t - t % 10), yy, wordOf 2 (t % 10)]) by rw [HDr, if_neg (fun h => hz h.2)]; try simp)
        clear HDr
        by_cases ha : t < 20 ∨ t % 10 = 0
        · have C2 := Lib.hid (fun W T => CW.out t (by omega) t rfl W T)
          have HE := Lib.hid (show D = ([] : List B) ++ [x1] ++ [wordOf 2 t] by rw [HD2.out, if_pos ha])
          generalize wordOf 2 t = x2 at *
          by_cases hb : t < 20
          · have hb2 : (t : Int) < 20 := by omega
            clear ha
            go_enter Tryd.func59, Tryd.ntmps59
            go_wp2_with (at_builtin; refine wpList_append_strs rfl _ _ rfl rfl w.heap.size (.slice none 0 0) (([] : List B)) rfl (HO.out.next ((Below.refl _ _).alloc (Nat.le_refl _) _)) (some ⟨w.heap.size, 0, none⟩) 1 1 [x1] rfl rfl (fun h => by cases h) (ssl_new _ _ [x1]) (by have := HPL.out; first | (simp; done) | (simp; omega) | omega) (by have := BB.out.size; first | (simp; done) | (simp; omega) | omega) ?_; intro V2 w2 ho hg; replace BB := Lib.hid (grown_below BB.out hg HO.out.block); replace HO := Lib.hid ho; replace HT := Lib.hid (HT0.out.next BB.out); clear ho hg)
            with_reducible refine Calls.mono (C2.out _ HT.out) ?_
            rintro e w' ⟨rfl, rfl⟩
            go_wp2_with (at_builtin; refine wpList_append_strs rfl _ _ rfl rfl w.heap.size V2 (([] : List B) ++ [x1]) rfl (HO.out.next ((Below.refl _ _).alloc (Nat.le_refl _) _)) (some ⟨w2.heap.size, 0, none⟩) 1 1 [x2] rfl rfl (fun h => by cases h) (ssl_new _ _ [x2]) (by have := HPL.out; first | (simp; done) | (simp; omega) | omega) (by have := BB.out.size; first | (simp; done) | (simp; omega) | omega) ?_; intro V9 w9 ho hg; replace BB := Lib.hid (grown_below BB.out hg HO.out.block); replace HO := Lib.hid ho; replace HT := Lib.hid (HT0.out.next BB.out); clear ho hg)
            go_ret
            exact ⟨_, rfl, by rw [HE.out]; exact HO.out, BB.out⟩
          · have hc : (t : Int) % 10 = 0 := by omega
            have hb2 : ¬ (t : Int) < 20 := by omega
            clear ha
            go_enter Tryd.func59, Tryd.ntmps59
            go_wp2_with (at_builtin; refine wpList_append_strs rfl _ _ rfl rfl w.heap.size (.slice none 0 0) (([] : List B)) rfl (HO.out.next ((Below.refl _ _).alloc (Nat.le_refl _) _)) (some ⟨w.heap.size, 0, none⟩) 1 1 [x1] rfl rfl (fun h => by cases h) (ssl_new _ _ [x1]) (by have := HPL.out; first | (simp; done) | (simp; omega) | omega) (by have := BB.out.size; first | (simp; done) | (simp; omega) | omega) ?_; intro V2 w2 ho hg; replace BB := Lib.hid (grown_below BB.out hg HO.out.block); replace HO := Lib.hid ho; replace HT := Lib.hid (HT0.out.next BB.out); clear ho hg)
            with_reducible refine Calls.mono (C2.out _ HT.out) ?_
            rintro e w' ⟨rfl, rfl⟩
            go_wp2_with (at_builtin; refine wpList_append_strs rfl _ _ rfl rfl w.heap.size V2 (([] : List B) ++ [x1]) rfl (HO.out.next ((Below.refl _ _).alloc (Nat.le_refl _) _)) (some ⟨w2.heap.size, 0, none⟩) 1 1 [x2] rfl rfl (fun h => by cases h) (ssl_new _ _ [x2]) (by have := HPL.out; first | (simp; done) | (simp; omega) | omega) (by have := BB.out.size; first | (simp; done) | (simp; omega) | omega) ?_; intro V9 w9 ho hg; replace BB := Lib.hid (grown_below BB.out hg HO.out.block); replace HO := Lib.hid ho; replace HT := Lib.hid (HT0.out.next BB.out); clear ho hg)
            go_ret
            exact ⟨_, rfl, by rw [HE.out]; exact HO.out, BB.out⟩
        · obtain ⟨d, hd⟩ : ∃ d, t % 10 = d := ⟨_, rfl⟩
          obtain ⟨u, hu⟩ : ∃ u, t - d = u := ⟨_, rfl⟩
          have e1 : (t : Int) % 10 = d := by omega
          have e2 : (t : Int) - d = u := by omega
          have e3 : ((d : Int) == 0) = false := by simp; omega
          have e4 : ¬ (t : Int) < 20 := by omega
          have z3 := zW.out d (by omega)
          have C3 := Lib.hid (fun W T => CW.out d (by omega) d rfl W T)
          by_cases h2 : u = 20
          · have e5 : ((u : Int) == 20) = true := by rw [h2]; rfl
            have HE := Lib.hid (show D = ([] : List B) ++ [x1] ++ [veinti ++ wordOf 2 d] by rw [HD2.out, if_neg ha, if_pos (by omega), hd])
            generalize wordOf 2 d = x3 at *
            clear ha hd hu h2
            go_enter Tryd.func59, Tryd.ntmps59
            go_wp2_with (at_builtin; refine wpList_append_strs rfl _ _ rfl rfl w.heap.size (.slice none 0 0) (([] : List B)) rfl (HO.out.next ((Below.refl _ _).alloc (Nat.le_refl _) _)) (some ⟨w.heap.size, 0, none⟩) 1 1 [x1] rfl rfl (fun h => by cases h) (ssl_new _ _ [x1]) (by have := HPL.out; first | (simp; done) | (simp; omega) | omega) (by have := BB.out.size; first | (simp; done) | (simp; omega) | omega) ?_; intro V2 w2 ho hg; replace BB := Lib.hid (grown_below BB.out hg HO.out.block); replace HO := Lib.hid ho; replace HT := Lib.hid (HT0.out.next BB.out); clear ho hg)
            with_reducible refine Calls.mono (C3.out _ HT.out) ?_
            rintro e w' ⟨rfl, rfl⟩
            go_wp2_with (at_builtin; refine wpList_append_strs rfl _ _ rfl rfl w.heap.size V2 (([] : List B) ++ [x1]) rfl (HO.out.next ((Below.refl _ _).alloc (Nat.le_refl _) _)) (some ⟨w2.heap.size, 0, none⟩) 1 1 [veinti ++ x3] rfl rfl (fun h => by cases h) (by rw [show (⟨#[118, 101, 105, 110, 116, 105]⟩ : ByteArray) ++ bs x3 = bs (veinti ++ x3) from by rw [← bs_append]; rfl]; exact ssl_new _ _ [veinti ++ x3]) (by have := HPL.out; first | (simp; done) | (simp; omega) | omega) (by have := BB.out.size; first | (simp; done) | (simp; omega) | omega) ?_; intro V9 w9 ho hg; replace BB := Lib.hid (grown_below BB.out hg HO.out.block); replace HO := Lib.hid ho; replace HT := Lib.hid (HT0.out.next BB.out); clear ho hg)
            go_ret
            exact ⟨_, rfl, by rw [HE.out]; exact HO.out, BB.out⟩
          · have e5 : ((u : Int) == 20) = false := by simp; omega
            have C2 := Lib.hid (fun W T => CW.out u (by omega) u rfl W T)
            have HE := Lib.hid (show D = ([] : List B) ++ [x1] ++ [wordOf 2 u, yy, wordOf 2 d] by rw [HD2.out, if_neg ha, if_neg (by omega), hd, hu])
            generalize wordOf 2 u = x2 at *
            generalize wordOf 2 d = x3 at *
            clear ha hd hu h2
            go_enter Tryd.func59, Tryd.ntmps59
            go_wp2_with (at_builtin; refine wpList_append_strs rfl _ _ rfl rfl w.heap.size (.slice none 0 0) (([] : List B)) rfl (HO.out.next ((Below.refl _ _).alloc (Nat.le_refl _) _)) (some ⟨w.heap.size, 0, none⟩) 1 1 [x1] rfl rfl (fun h => by cases h) (ssl_new _ _ [x1]) (by have := HPL.out; first | (simp; done) | (simp; omega) | omega) (by have := BB.out.size; first | (simp; done) | (simp; omega) | omega) ?_; intro V2 w2 ho hg; replace BB := Lib.hid (grown_below BB.out hg HO.out.block); replace HO := Lib.hid ho; replace HT := Lib.hid (HT0.out.next BB.out); clear ho hg)
            with_reducible refine Calls.mono (C2.out _ HT.out) ?_
            rintro e w' ⟨rfl, rfl⟩
            go_wp2_with fail
            with_reducible refine Calls.mono (C3.out _ HT.out) ?_
            rintro e w' ⟨rfl, rfl⟩
            go_wp2_with (at_builtin; refine wpList_append_strs rfl _ _ rfl rfl w.heap.size V2 (([] : List B) ++ [x1]) rfl (HO.out.next ((Below.refl _ _).alloc (Nat.le_refl _) _)) (some ⟨w2.heap.size, 0, none⟩) 3 3 [x2, yy, x3] rfl rfl (fun h => by cases h) (ssl_new _ _ [x2, yy, x3]) (by have := HPL.out; first | (simp; done) | (simp; omega) | omega) (by have := BB.out.size; first | (simp; done) | (simp; omega) | omega) ?_; intro V9 w9 ho hg; replace BB := Lib.hid (grown_below BB.out hg HO.out.block); replace HO := Lib.hid ho; replace HT := Lib.hid (HT0.out.next BB.out); clear ho hg)
            go_ret
            exact ⟨_, rfl, by rw [HE.out]; exact HO.out, BB.out⟩
    · have hi1 : (n : Int) / 100 = 0 := by omega
      have e0 : n % 100 = n := by omega
      have HD2 := Lib.hid (show D = ([] : List B) ++ (if n < 20 ∨ n % 10 = 0 then [wordOf 2 n] else if n / 10 = 2 then [veinti ++ wordOf 2 (n % 10)] else [wordOf 2 (n - n % 10), yy, wordOf 2 (n % 10)]) by rw [HDr, if_neg h0, if_neg (fun h => h0 h.1), e0]; try simp)
      clear HDr e0
      by_cases ha : n < 20 ∨ n % 10 = 0
      · have C2 := Lib.hid (fun W T => CW.out n (by omega) n rfl W T)
        have HE := Lib.hid (show D = ([] : List B) ++ [wordOf 2 n] by rw [HD2.out, if_pos ha])
        generalize wordOf 2 n = x2 at *
        by_cases hb : n < 20
        · have hb2 : (n : Int) < 20 := by omega
          clear ha
          go_enter Tryd.func59, Tryd.ntmps59
          go_wp2_with fail
          with_reducible refine Calls.mono (C2.out _ HT.out) ?_
          rintro e w' ⟨rfl, rfl⟩
          go_wp2_with (at_builtin; refine wpList_append_strs rfl _ _ rfl rfl w.heap.size (.slice none 0 0) (([] : List B)) rfl (HO.out.next ((Below.refl _ _).alloc (Nat.le_refl _) _)) (some ⟨w.heap.size, 0, none⟩) 1 1 [x2] rfl rfl (fun h => by cases h) (ssl_new _ _ [x2]) (by have := HPL.out; first | (simp; done) | (simp; omega) | omega) (by have := BB.out.size; first | (simp; done) | (simp; omega) | omega) ?_; intro V9 w9 ho hg; replace BB := Lib.hid (grown_below BB.out hg HO.out.block); replace HO := Lib.hid ho; replace HT := Lib.hid (HT0.out.next BB.out); clear ho hg)
          go_ret
          exact ⟨_, rfl, by rw [HE.out]; exact HO.out, BB.out⟩
        · have hc : (n : Int) % 10 = 0 := by omega
          have hb2 : ¬ (n : Int) < 20 := by omega
          clear ha
          go_enter Tryd.func59, Tryd.ntmps59
          go_wp2_with fail
          with_reducible refine Calls.mono (C2.out _ HT.out) ?_
          rintro e w' ⟨rfl, rfl⟩
          go_wp2_with (at_builtin; refine wpList_append_strs rfl _ _ rfl rfl w.heap.size (.slice none 0 0) (([] : List B)) rfl (HO.out.next ((Below.refl _ _).alloc (Nat.le_refl _) _)) (some ⟨w.heap.size, 0, none⟩) 1 1 [x2] rfl rfl (fun h => by cases h) (ssl_new _ _ [x2]) (by have := HPL.out; first | (simp; done) | (simp; omega) | omega) (by have := BB.out.size; first | (simp; done) | (simp; omega) | omega) ?_; intro V9 w9 ho hg; replace BB := Lib.hid (grown_below BB.out hg HO.out.block); replace HO := Lib.hid ho; replace HT := Lib.hid (HT0.out.next BB.out); clear ho hg)
          go_ret
          exact ⟨_, rfl, by rw [HE.out]; exact HO.out, BB.out⟩
      · obtain ⟨d, hd⟩ : ∃ d, n % 10 = d := ⟨_, rfl⟩
        obtain ⟨u, hu⟩ : ∃ u, n - d = u := ⟨_, rfl⟩
        have e1 : (n : Int) % 10 = d := by omega
        have e2 : (n : Int) - d = u := by omega
        have e3 : ((d : Int) == 0) = false := by simp; omega
        have e4 : ¬ (n : Int) < 20 := by omega
        have z3 := zW.out d (by omega)
        have C3 := Lib.hid (fun W T => CW.out d (by omega) d rfl W T)
        by_cases h2 : u = 20
        · have e5 : ((u : Int) == 20) = true := by rw [h2]; rfl
          have HE := Lib.hid (show D = ([] : List B) ++ [veinti ++ wordOf 2 d] by rw [HD2.out, if_neg ha, if_pos (by omega), hd])
          generalize wordOf 2 d = x3 at *
          clear ha hd hu h2
          go_enter Tryd.func59, Tryd.ntmps59
          go_wp2_with fail
          with_reducible refine Calls.mono (C3.out _ HT.out) ?_
          rintro e w' ⟨rfl, rfl⟩
          go_wp2_with (at_builtin; refine wpList_append_strs rfl _ _ rfl rfl w.heap.size (.slice none 0 0) (([] : List B)) rfl (HO.out.next ((Below.refl _ _).alloc (Nat.le_refl _) _)) (some ⟨w.heap.size, 0, none⟩) 1 1 [veinti ++ x3] rfl rfl (fun h => by cases h) (by rw [show (⟨#[118, 101, 105, 110, 116, 105]⟩ : ByteArray) ++ bs x3 = bs (veinti ++ x3) from by rw [← bs_append]; rfl]; exact ssl_new _ _ [veinti ++ x3]) (by have := HPL.out; first | (simp; done) | (simp; omega) | omega) (by have := BB.out.size; first | (simp; done) | (simp; omega) | omega) ?_; intro V9 w9 ho hg; replace BB := Lib.hid (grown_below BB.out hg HO.out.block); replace HO := Lib.hid ho; replace HT := Lib.hid (HT0.out.next BB.out); clear ho hg)
          go_ret
          exact ⟨_, rfl, by rw [HE.out]; exact HO.out, BB.out⟩
        · have e5 : ((u : Int) == 20) = false := by simp; omega
          have C2 := Lib.hid (fun W T => CW.out u (by omega) u rfl W T)
          have HE := Lib.hid (show D = ([] : List B) ++ [wordOf 2 u, yy, wordOf 2 d] by rw [HD2.out, if_neg ha, if_neg (by omega), hd, hu])
          generalize wordOf 2 u = x2 at *
          generalize wordOf 2 d = x3 at *
          clear ha hd hu h2
          go_enter Tryd.func59, Tryd.ntmps59
          go_wp2_with fail
          with_reducible refine Calls.mono (C2.out _ HT.out) ?_
          rintro e w' ⟨rfl, rfl⟩
          go_wp2_with fail
          with_reducible refine Calls.mono (C3.out _ HT.out) ?_
          rintro e w' ⟨rfl, rfl⟩
          go_wp2_with (at_builtin; refine wpList_append_strs rfl _ _ rfl rfl w.heap.size (.slice none 0 0) (([] : List B)) rfl (HO.out.next ((Below.refl _ _).alloc (Nat.le_refl _) _)) (some ⟨w.heap.size, 0, none⟩) 3 3 [x2, yy, x3] rfl rfl (fun h => by cases h) (ssl_new _ _ [x2, yy, x3]) (by have := HPL.out; first | (simp; done) | (simp; omega) | omega) (by have := BB.out.size; first | (simp; done) | (simp; omega) | omega) ?_; intro V9 w9 ho hg; replace BB := Lib.hid (grown_below BB.out hg HO.out.block); replace HO := Lib.hid ho; replace HT := Lib.hid (HT0.out.next BB.out); clear ho hg)
          go_ret
          exact ⟨_, rfl, by rw [HE.out]; exact HO.out, BB.out⟩
set_option maxRecDepth 100000 in
theorem esS_small {n : Nat} (hn : n < 1000) : ∀ s ∈ esS n, s.length ≤ 40 := by
  have h := below (p := fun n => (esS n).all fun s => decide (s.length ≤ 40)) (N := 1000) (by decide +kernel) hn
  intro s hs
  exact of_decide_eq_true (List.all_eq_true.1 h s hs)
theorem OwnS.some {w : World} {B0 k : Nat} {v : Value} {l : List B} (h : OwnS w B0 v l) (hk : l.length = k + 1) : ∃ g c, v = .slice (some ⟨g, 0, none⟩) (k + 1) c ∧ B0 ≤ g ∧ g < w.heap.size ∧ w.cell? ⟨g, k, none⟩ = some (sV (l.getD k [])) := by
  have hx := h
  rcases h.2 with ⟨_, h1⟩ | ⟨g, cap, cur, rfl, h2, h3, _⟩
  · omega
  · refine ⟨g, cap, by rw [hk], h2, (Array.getElem?_eq_some_iff.1 h3).1, ?_⟩
    rcases hx.sl with rfl | ⟨b, off, e, _, hc⟩
    · simp at hk
    · cases e
      have := hc k _ (getD_get (by omega))
      rwa [Nat.zero_add] at this
end Wo
end Go.Proofs.YtebdpdmkehfgfaaDoor
