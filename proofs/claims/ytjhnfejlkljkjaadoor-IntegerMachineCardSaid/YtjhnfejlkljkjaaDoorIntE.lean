/- Natural numbers in groups: a copy turned around; products. -/
import Derived.Test.YtjhnfejlkljkjaaDoorIntD
import Derived.Lib.SliceRun
import Derived.StillTail
namespace Go.Proofs.YtjhnfejlkljkjaaDoor
open Go.RowKit

/-! ### slices.Clone -/
theorem made_none (w : World) {B n : Nat} (hB : B ≤ w.heap.size) (hn : w.heap.size = n) : (w.alloc (.cells #[] 3)).ownsRow B 3 1 (.slice (some ⟨n, 0, none⟩) 0 0) 0 (([] : List Nat).map natV) := by
  subst hn
  exact ⟨rfl, .inr ⟨w.heap.size, 0, #[], rfl, hB, Row.new w 3 [], Nat.le_refl _, by decide, rfl, rfl⟩⟩
set_option maxRecDepth 100000 in
set_option maxHeartbeats 1000000 in
theorem clone_any (o : Option Addr) (L c : Nat) (l : List Nat) (w : World) (hl : l.length = L) (hL : L ≤ 1000) (ho : o = none → c = 0) (hLc : L ≤ c) (hS : LSl w o l) :
    Calls Tryd.prog 69 #[.slice o L c] w fun e w' => ∃ v, e = .returned v ∧ w'.ownsRow w.heap.size 3 1 v L (l.map natV) ∧ Below w.heap.size w w' := by
  have HS := Lib.hid hS
  have HL := Lib.hid hl
  have q := fun (w : World) (a : Option Addr) (n c n' c' : Nat) => Lib.run_eql_slice_nil (P := Tryd.prog) w 49 3 a n c n' c' Tryd.underlying49
  cases o with
  | none =>
    have hc := ho rfl
    subst hc
    obtain rfl : L = 0 := by omega
    obtain rfl : l = [] := List.eq_nil_of_length_eq_zero hl
    have HB := Lib.hid (Below.refl w.heap.size w)
    clear hS hl ho
    go_enter Tryd.func69, Tryd.ntmps69
    go_wp2_with fail
    go_ret
    exact ⟨_, rfl, World.ownsRow_nil _ _ _ _, HB.out⟩
  | some a =>
    clear hS hl ho
    go_enter Tryd.func69, Tryd.ntmps69
    go_wp2_with (at_builtin; refine wpList_append_nats rfl _ _ 49 Tryd.underlying49 rfl rfl w.heap.size (.slice (some ⟨w.heap.size, 0, none⟩) 0 0) 0 [] rfl (made_none w (Nat.le_refl _) rfl) (some a) L c l rfl HL.out (fun h => by cases h) (HS.out.next ((Below.refl _ _).alloc (Nat.le_refl _) _)) (by omega) (by simp) ?_; intro v' w2 hown' hgrow; have K := Lib.hid (And.intro hown' (((Below.refl w.heap.size w).alloc (Nat.le_refl _) (.cells #[] 3)).grown hgrow (by simp) (fun k hk => by simp [Value.ownBlock] at hk; omega))); clear hown' hgrow)
    go_ret
    refine ⟨_, rfl, ?_, K.out.2⟩
    have := K.out.1
    rw [Nat.zero_add, List.nil_append] at this
    exact this

/-! ### slices.Reverse -/
/-- the first k and the last k are exchanged -/
def swapL (l : List Nat) (k : Nat) : List Nat := (List.range l.length).map fun i => if i < k ∨ l.length - k ≤ i then l.getD (l.length - 1 - i) 0 else l.getD i 0
theorem swapL_length (l : List Nat) (k : Nat) : (swapL l k).length = l.length := by simp [swapL]
theorem swapL_at (l : List Nat) (k i : Nat) (h : i < l.length) : (swapL l k)[i]? = some (if i < k ∨ l.length - k ≤ i then l.getD (l.length - 1 - i) 0 else l.getD i 0) := by
  rw [swapL, List.getElem?_map, List.getElem?_range h]
  rfl
theorem swapL_zero (l : List Nat) : swapL l 0 = l := by
  apply List.ext_getElem?
  intro i
  by_cases h : i < l.length
  · rw [swapL_at l 0 i h, if_neg (by omega), List.getD_eq_getElem?_getD, List.getElem?_eq_getElem h]
    rfl
  · rw [List.getElem?_eq_none (by rw [swapL_length]; omega), List.getElem?_eq_none (by omega)]
theorem swapL_end (l : List Nat) (k : Nat) (h : l.length ≤ 2 * k + 1) (hk : 2 * k ≤ l.length) : swapL l k = l.reverse := by
  apply List.ext_getElem?
  intro i
  by_cases hi : i < l.length
  · rw [swapL_at l k i hi, List.getElem?_reverse hi]
    have e : (if i < k ∨ l.length - k ≤ i then l.getD (l.length - 1 - i) 0 else l.getD i 0) = l.getD (l.length - 1 - i) 0 := by
      by_cases hc : i < k ∨ l.length - k ≤ i
      · rw [if_pos hc]
      · rw [if_neg hc, show l.length - 1 - i = i by omega]
    rw [e, List.getD_eq_getElem?_getD, List.getElem?_eq_getElem (by omega)]
    rfl
  · rw [List.getElem?_eq_none (by rw [swapL_length]; omega), List.getElem?_eq_none (by rw [List.length_reverse]; omega)]
theorem swapL_next (l : List Nat) (k x y : Nat) (h : 2 * k + 1 < l.length) (hx : l.getD k 0 = x) (hy : l.getD (l.length - 1 - k) 0 = y) : ((swapL l k).set k y).set (l.length - 1 - k) x = swapL l (k + 1) := by
  apply List.ext_getElem?
  intro i
  by_cases hi : i < l.length
  · rw [swapL_at l (k + 1) i hi, List.getElem?_set, List.getElem?_set, swapL_at l k i hi, List.length_set, swapL_length]
    by_cases h1 : l.length - 1 - k = i
    · rw [if_pos h1, if_pos (by omega), if_pos (by omega), ← h1, show l.length - 1 - (l.length - 1 - k) = k by omega, hx]
    · rw [if_neg h1]
      by_cases h2 : k = i
      · rw [if_pos h2, if_pos (by omega), if_pos (by omega), ← h2, hy]
      · rw [if_neg h2]
        by_cases h3 : i < k ∨ l.length - k ≤ i
        · rw [if_pos h3, if_pos (by omega)]
        · rw [if_neg h3, if_neg (by omega)]
  · rw [List.getElem?_eq_none (by rw [List.length_set, List.length_set, swapL_length]; omega), List.getElem?_eq_none (by rw [swapL_length]; omega)]
theorem own_row {w : World} {B b n c : Nat} {l : List Nat} (h : w.ownsRow B 3 1 (.slice (some ⟨b, 0, none⟩) n c) n (l.map natV)) : ∃ R, Row w b 3 (l.map natV ++ R) ∧ B ≤ b := by
  rcases h.2 with ⟨h1, _⟩ | ⟨g, cap, cur, h1, hg, hb, _, _, _, ht⟩
  · cases h1
  · cases h1
    refine ⟨cur.toList.drop (n * 1), ?_, hg⟩
    rw [← ht, List.take_append_drop]
    exact hb
theorem set_left {l : List Nat} {R : List Value} {i : Nat} (h : i < l.length) (x : Nat) : (l.map natV ++ R).set i (natV x) = (l.set i x).map natV ++ R := by
  rw [List.set_append_left _ _ (by simpa using h), ← List.map_set]
theorem row_left {w : World} {b : Nat} {t : TypeId} {l : List Nat} {R : List Value} (h : Row w b t (l.map natV ++ R)) {i x : Nat} (hx : l[i]? = some x) : w.cell? ⟨b, i, none⟩ = some (natV x) := by
  have hi : i < l.length := (List.getElem?_eq_some_iff.1 hx).1
  rw [h.cell, List.getElem?_append_left (by simpa using hi), List.getElem?_map, hx]
  rfl
theorem row_lsl {w : World} {b : Nat} {t : TypeId} {l : List Nat} {R : List Value} (h : Row w b t (l.map natV ++ R)) : LSl w (some ⟨b, 0, none⟩) l :=
  .inr ⟨b, 0, rfl, h.lt, fun j x hx => by rw [Nat.zero_add]; exact row_left h hx⟩
theorem getD_some {l : List Nat} {i : Nat} (h : i < l.length) : l[i]? = some (l.getD i 0) := by rw [List.getD_eq_getElem?_getD, List.getElem?_eq_getElem h]; rfl
set_option maxRecDepth 100000 in
set_option maxHeartbeats 1000000 in
theorem reverse_any (b L c : Nat) (l : List Nat) (R : List Value) (w : World) (hl : l.length = L) (hL : L ≤ 1000) (B : Nat) (hBb : B ≤ b) (hLc : L ≤ c) (hR : Row w b 3 (l.map natV ++ R)) :
    Calls Tryd.prog 70 #[.slice (some ⟨b, 0, none⟩) L c] w fun e w' => e = .returned (.tuple #[]) ∧ LSl w' (some ⟨b, 0, none⟩) l.reverse ∧ Below B w w' := by
  have HR := Lib.hid hR
  have HL := Lib.hid hl
  have HB0 := Lib.hid (Below.refl B w)
  clear hR hl
  go_enter Tryd.func70, Tryd.ntmps70
  go_wp2_with fail
  go_loopw [2, 3] (fun iv jv wr => ∃ k : Nat, 2 * k ≤ L ∧ iv = .int .i64 k ∧ jv = .int .i64 ((L : Int) - 1 - k) ∧ Row wr b 3 ((swapL l k).map natV ++ R) ∧ Below B w wr) (fun iv _ _ => L - (intOf iv).toNat)
  case atStart => exact ⟨0, by omega, rfl, by simp, by rw [swapL_zero]; exact HR.out, HB0.out⟩
  case round =>
    obtain ⟨k, hk, rfl, rfl, hR, hB⟩ := hrel
    clear HR HB0
    by_cases hlt : 2 * k + 1 < L
    · obtain ⟨m, hm⟩ : ∃ m, L - 1 - k = m := ⟨_, rfl⟩
      have hmI : (L : Int) - 1 - k = (m : Int) := by omega
      have hx := swapL_at l k k (by rw [HL.out]; omega)
      have hy := swapL_at l k m (by rw [HL.out]; omega)
      rw [HL.out, if_neg (by omega)] at hx
      rw [HL.out, if_neg (by omega)] at hy
      have HN := Lib.hid (swapL_next l k (l.getD k 0) (l.getD m 0) (by rw [HL.out]; exact hlt) rfl (by rw [HL.out, hm]))
      rw [HL.out, hm] at HN
      have c1 := row_left hR hx
      have c2 := row_left hR hy
      generalize l.getD k 0 = x at *
      generalize l.getD m 0 = y at *
      have hRl := hR.lt
      have HK := Lib.hid (And.intro hR hB)
      rw [hmI]
      have hkm : k ≠ m := by omega
      have hkL : k < L := by omega
      have hmL : m < L := by omega
      have hkmI : (k : Int) < m := by omega
      clear hx hy hR hB hmI
      go_upto_region 3 with (fail)
      have f1 := HK.out.1.frozen k
      have f2 := HK.out.1.frozen m
      have HR2 := Lib.hid HK.out.1
      go_region
      all_goals go_wp2_with fail
      all_goals go_roundw
      all_goals first
        | (case rel =>
            refine ⟨k + 1, by omega, by go_num, vint (by omega), ?_, ?_⟩
            · have h3 := (HR2.out.set k (natV y)).set m (natV x)
              rw [set_left (by rw [swapL_length, HL.out]; omega), set_left (by rw [List.length_set, swapL_length, HL.out]; omega), HN.out] at h3
              exact h3.drew
            · exact ((HK.out.2.setCell (p := ⟨b, k, none⟩) hBb _).setCell (p := ⟨b, m, none⟩) hBb _).drew)
        | (simp [intOf]; omega)
    · have hs := swapL_end l k (by rw [HL.out]; omega) (by rw [HL.out]; exact hk)
      rw [hs] at hR
      have HF := Lib.hid (And.intro (row_lsl hR) hB)
      have d0 : ¬ (k : Int) < (L : Int) - 1 - k := by omega
      have d1 : decide ((k : Int) < (L : Int) - 1 - k) = false := by simp; omega
      clear hR hB hs
      go_wp2_with fail
      go_end0
      exact ⟨rfl, HF.out⟩
end Go.Proofs.YtjhnfejlkljkjaaDoor
