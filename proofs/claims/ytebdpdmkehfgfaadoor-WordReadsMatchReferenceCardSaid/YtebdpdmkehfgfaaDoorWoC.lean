/- The library's contracts in the words of the mathematics. -/
import Derived.Test.YtebdpdmkehfgfaaDoorWoB
import Derived.Test.YtebdpdmkehfgfaaDoorShelf
set_option linter.unusedVariables false
set_option linter.unusedSimpArgs false
namespace Go.Proofs.YtebdpdmkehfgfaaDoor
open Go.RowKit
namespace Wo
theorem sV_of (l : List UInt8) : Value.string ⟨l.toArray⟩ = sV l := rfl
theorem HasSuffix_any (s q : B) (p : ByteArray) (hp : p = bs q) (w : World) (hs : s.length ≤ 1000000) : Calls Tryd.prog 67 #[.string (bs s), .string p] w fun e w' => e = .returned (.bool (q.isSuffixOf s)) ∧ w = w' := by
  subst hp
  refine (Tryd.strings_HasSuffix (bs s) (bs q) w (by rw [bs_size]; omega)).mono ?_
  rintro e w' ⟨rfl, rfl⟩
  rw [bs_list, bs_list]
  exact ⟨rfl, rfl⟩
theorem TrimSuffix_any (s q : B) (p : ByteArray) (hp : p = bs q) (w : World) (hs : s.length ≤ 1000000) : Calls Tryd.prog 68 #[.string (bs s), .string p] w fun e w' => e = .returned (sV (trim q s)) ∧ w = w' := by
  subst hp
  refine (Tryd.strings_TrimSuffix (bs s) (bs q) w (by rw [bs_size]; omega)).mono ?_
  rintro e w' ⟨rfl, rfl⟩
  rw [bs_list, bs_list, trim_lib]
  exact ⟨rfl, rfl⟩
theorem CutSuffix_some {s q r : B} (h : cutSuffix q s = some r) (p : ByteArray) (hp : p = bs q) (w : World) (hs : s.length ≤ 1000000) : Calls Tryd.prog 69 #[.string (bs s), .string p] w fun e w' => e = .returned (.tuple #[sV r, .bool true]) ∧ w = w' := by
  subst hp
  refine (Tryd.strings_CutSuffix (bs s) (bs q) w (by rw [bs_size]; omega)).mono ?_
  rintro e w' ⟨rfl, rfl⟩
  have := suffix_lib q s
  rw [h] at this
  rw [bs_list, bs_list, (Prod.mk.inj this).1, (Prod.mk.inj this).2]
  exact ⟨rfl, rfl⟩
theorem CutSuffix_none {s q : B} (h : cutSuffix q s = none) (p : ByteArray) (hp : p = bs q) (w : World) (hs : s.length ≤ 1000000) : Calls Tryd.prog 69 #[.string (bs s), .string p] w fun e w' => e = .returned (.tuple #[sV s, .bool false]) ∧ w = w' := by
  subst hp
  refine (Tryd.strings_CutSuffix (bs s) (bs q) w (by rw [bs_size]; omega)).mono ?_
  rintro e w' ⟨rfl, rfl⟩
  have := suffix_lib q s
  rw [h] at this
  rw [bs_list, bs_list, (Prod.mk.inj this).1, (Prod.mk.inj this).2]
  exact ⟨rfl, rfl⟩
theorem CutPrefix_some {s q r : B} (h : cutPrefix q s = some r) (p : ByteArray) (hp : p = bs q) (w : World) : Calls Tryd.prog 81 #[.string (bs s), .string p] w fun e w' => e = .returned (.tuple #[sV r, .bool true]) ∧ w = w' := by
  subst hp
  refine (Tryd.strings_CutPrefix (bs s) (bs q) w).mono ?_
  rintro e w' ⟨rfl, rfl⟩
  have := prefix_lib q s
  rw [h] at this
  rw [bs_list, bs_list, (Prod.mk.inj this).1, (Prod.mk.inj this).2]
  exact ⟨rfl, rfl⟩
theorem CutPrefix_none {s q : B} (h : cutPrefix q s = none) (p : ByteArray) (hp : p = bs q) (w : World) : Calls Tryd.prog 81 #[.string (bs s), .string p] w fun e w' => e = .returned (.tuple #[sV s, .bool false]) ∧ w = w' := by
  subst hp
  refine (Tryd.strings_CutPrefix (bs s) (bs q) w).mono ?_
  rintro e w' ⟨rfl, rfl⟩
  have := prefix_lib q s
  rw [h] at this
  rw [bs_list, bs_list, (Prod.mk.inj this).1, (Prod.mk.inj this).2]
  exact ⟨rfl, rfl⟩
theorem Cut_some {s q x y : B} (h : cut q s = some (x, y)) (hq : q ≠ []) (p : ByteArray) (hp : p = bs q) (w : World) (T : Tab w) (hs : s.length ≤ 1000000) : Calls Tryd.prog 73 #[.string (bs s), .string p] w fun e w' => e = .returned (.tuple #[sV x, sV y, .bool true]) ∧ Below w.heap.size w w' := by
  subst hp
  obtain ⟨m, hm⟩ := T.max
  refine (Tryd.strings_Cut (bs s) (bs q) m w (by rw [bs_size]; omega) hm).mono ?_
  rintro e w' ⟨rfl, n, rfl⟩
  have := cut_lib hq s
  rw [h] at this
  rw [bs_list, bs_list, this]
  exact ⟨rfl, below_drewN (Below.refl _ _) n⟩
theorem Cut_none {s q : B} (h : cut q s = none) (hq : q ≠ []) (p : ByteArray) (hp : p = bs q) (w : World) (T : Tab w) (hs : s.length ≤ 1000000) : Calls Tryd.prog 73 #[.string (bs s), .string p] w fun e w' => e = .returned (.tuple #[sV s, sV [], .bool false]) ∧ Below w.heap.size w w' := by
  subst hp
  obtain ⟨m, hm⟩ := T.max
  refine (Tryd.strings_Cut (bs s) (bs q) m w (by rw [bs_size]; omega) hm).mono ?_
  rintro e w' ⟨rfl, n, rfl⟩
  have := cut_lib hq s
  rw [h] at this
  rw [bs_list, bs_list, this]
  exact ⟨rfl, below_drewN (Below.refl _ _) n⟩
def idxI (x : B) (l : List B) : Int := match idx x l with
  | some k => (k : Int)
  | none => -1
theorem getD_map (l : List B) (j : Nat) (hj : j < l.length) : (l.map bs).getD j ByteArray.empty = bs (l.getD j []) := by
  rw [List.getD_eq_getElem?_getD, List.getD_eq_getElem?_getD, List.getElem?_map, List.getElem?_eq_getElem hj]
  rfl
theorem Index_any (o : Option Addr) (n c : Nat) (l : List B) (x : B) (p : ByteArray) (hp : p = bs x) (w : World) (hl : l.length = n) (hn : n ≤ 1000000) (hS : SSl w o l) : Calls Tryd.prog 51 #[.slice o n c, .string p] w fun e w' => e = .returned (.int .i64 (idxI x l)) ∧ w = w' := by
  subst hp
  rcases hS with rfl | ⟨b, off, rfl, hb, hc⟩
  · subst hl
    refine (Tryd.slices_Index_string_empty o c (bs x) w).mono ?_
    rintro e w' ⟨rfl, rfl⟩
    exact ⟨rfl, rfl⟩
  · refine (Tryd.slices_Index_string b off n c (l.map bs) (bs x) w (by simp [hl]) (by omega) (fun j hj => by
      rw [List.length_map] at hj
      rw [getD_map l j hj]
      exact hc j _ (getD_get hj))).mono ?_
    rintro e w' ⟨rfl, rfl⟩
    refine ⟨?_, rfl⟩
    rw [List.take_of_length_le (by simp [hl]), idx_lib]
    rfl
theorem Equal_any (o1 o2 : Option Addr) (n1 c1 n2 c2 : Nat) (l1 l2 : List B) (w : World) (h1 : l1.length = n1) (h2 : l2.length = n2) (hn1 : n1 ≤ 1000000) (hn2 : n2 ≤ 1000000) (hS1 : SSl w o1 l1) (hS2 : SSl w o2 l2) :
    Calls Tryd.prog 52 #[.slice o1 n1 c1, .slice o2 n2 c2] w fun e w' => e = .returned (.bool (decide (l1 = l2))) ∧ Below w.heap.size w w' := by
  by_cases hne : n1 = n2
  · rcases hS1 with rfl | ⟨b, off, rfl, hb, hc⟩
    · subst h1
      subst hne
      obtain rfl := List.eq_nil_of_length_eq_zero h2
      refine (Tryd.slices_Equal_string_empty o1 o2 c1 0 c2 w (by omega)).mono ?_
      rintro e w' ⟨rfl, rfl⟩
      exact ⟨by simp, Below.refl _ _⟩
    · rcases hS2 with rfl | ⟨b2, off2, rfl, hb2, hc2⟩
      · subst h2
        subst hne
        obtain rfl := List.eq_nil_of_length_eq_zero h1
        refine (Tryd.slices_Equal_string_empty _ o2 c1 0 c2 w (by omega)).mono ?_
        rintro e w' ⟨rfl, rfl⟩
        exact ⟨by simp, Below.refl _ _⟩
      · refine (Tryd.slices_Equal_string b off n1 c1 b2 off2 n2 c2 (l1.map bs) (l2.map bs) w (by simp [h1]) (by simp [h2]) (by omega) (by omega) (fun j hj => by
          rw [List.length_map] at hj
          rw [getD_map l1 j hj]
          exact hc j _ (getD_get hj)) (fun j hj => by
          rw [List.length_map] at hj
          rw [getD_map l2 j hj]
          exact hc2 j _ (getD_get hj))).mono ?_
        rintro e w' ⟨rfl, q, rfl⟩
        refine ⟨?_, below_drewN (Below.refl _ _) q⟩
        rw [List.take_of_length_le (by simp [h1]), List.take_of_length_le (by simp [h2])]
        simp only [map_bs_inj]
  · refine (Tryd.slices_Equal_string_lens o1 o2 n1 c1 n2 c2 w hne).mono ?_
    rintro e w' ⟨rfl, rfl⟩
    refine ⟨?_, Below.refl _ _⟩
    rw [decide_eq_false (fun h => hne (by rw [← h1, ← h2, h]))]
end Wo
end Go.Proofs.YtebdpdmkehfgfaaDoor
