/- Names of months and days. -/
import Derived.Test.YtebdpdmkehfgfaaDoorWoQ
import Derived.Laws.Rows
import Derived.Laws.Tables
import Derived.Deep.WholeRow
set_option linter.unusedVariables false
set_option linter.unusedSimpArgs false
namespace Go.Proofs.YtebdpdmkehfgfaaDoor
open Go.RowKit
namespace Wo
def mO (L : Int) : List B := if okL L then months (L - 1).toNat else []
def dO (L : Int) : List B := if okL L then days (L - 1).toNat else []
/-- the name with a number; the number with a name -/
def nm (l : List B) (f n : Int) : B × Int := if n < f ∨ (l.length : Int) ≤ n - f then ([], 110) else (l.getD (n - f).toNat [], 0)
def nu (l : List B) (f : Int) (s : B) : Int × Int := match idx s l with
  | some i => (i + f, 0)
  | none => (0, 110)
theorem all_one (l : List B) : (l.map sV).toArray.all (·.oneCell') = true := by
  rw [Array.all_eq_true']
  intro x hx
  exact sV_one l x (by simpa using hx)
theorem months_len {k : Nat} (hk : k < 3) : (months k).length = 12 := by rcases (show k = 0 ∨ k = 1 ∨ k = 2 by omega) with rfl | rfl | rfl <;> rfl
theorem days_len {k : Nat} (hk : k < 3) : (days k).length = 7 := by rcases (show k = 0 ∨ k = 1 ∨ k = 2 by omega) with rfl | rfl | rfl <;> rfl
theorem infomonthsOf : (Tryd.prog.info? 74).map (·.size) = some 12 := by kernel_rfl
set_option maxRecDepth 100000 in
set_option maxHeartbeats 1000000 in
theorem monthsOf_any (L : Int) (w : World) (T : Tab w) : Calls Tryd.prog 38 #[.int .i64 L] w fun e w' => ∃ o, e = .returned (.slice o (mO L).length (mO L).length) ∧ SSl w' o (mO L) ∧ Below w.heap.size w w' := by
  by_cases h : okL L
  · have e : mO L = months (L - 1).toNat := if_pos h
    rw [e]
    have CL := Lib.hid (lang_yes h w)
    obtain ⟨k, hk, hL, hk2⟩ := okL_k h
    rw [hk2]
    have LM := Lib.hid (months_len hk)
    have C := Lib.hid (show ∀ i x, (months k)[i]? = some x → w.cell? ⟨0, k * 12 + i, none⟩ = some (sV x) from fun i x hx => by
      have hi : i < 12 := by
        have := (List.getElem?_eq_some_iff.1 hx).1
        rw [months_len hk] at this
        exact this
      have e : (months k).getD i [] = x := by rw [List.getD_eq_getElem?_getD, hx]; rfl
      have := T.month k i hk hi
      rwa [e] at this)
    rw [LM.out]
    have l := T.lt
    generalize months k = l1 at *
    subst hL
    clear T h e hk2
    go_enter Tryd.func38, Tryd.ntmps38
    go_wp2_with fail
    with_reducible refine Calls.mono CL.out ?_
    rintro e w' ⟨rfl, rfl⟩
    go_upto_region 4 with (first | (refine wpList_load_part rfl _ _ rfl _ _ 12 _ rfl l1 LM.out Tryd.underlying74 infomonthsOf C.out ?_) | (refine wpList_store_row rfl _ _ _ rfl w.heap.size (l1.map sV).toArray rfl rfl 74 _ (heap_alloc_new w _) (by rw [infomonthsOf]; simp [LM.out]) (by simp [LM.out]) (all_one l1) ?_))
    rw [World.setRow_alloc_new]
    go_wp2_with fail
    go_ret
    exact ⟨_, rfl, ssl_new _ _ _, (Below.refl _ _).alloc (Nat.le_refl _) _⟩
  · have e : mO L = [] := if_neg h
    rw [e]
    have CL := Lib.hid (lang_no h w)
    clear h T e
    go_enter Tryd.func38, Tryd.ntmps38
    go_wp2_with fail
    with_reducible refine Calls.mono CL.out ?_
    rintro e w' ⟨rfl, rfl⟩
    go_wp2_with fail
    go_ret
    exact ⟨_, rfl, .inl rfl, Below.refl _ _⟩
theorem infoweekdaysOf : (Tryd.prog.info? 76).map (·.size) = some 7 := by kernel_rfl
set_option maxRecDepth 100000 in
set_option maxHeartbeats 1000000 in
theorem weekdaysOf_any (L : Int) (w : World) (T : Tab w) : Calls Tryd.prog 41 #[.int .i64 L] w fun e w' => ∃ o, e = .returned (.slice o (dO L).length (dO L).length) ∧ SSl w' o (dO L) ∧ Below w.heap.size w w' := by
  by_cases h : okL L
  · have e : dO L = days (L - 1).toNat := if_pos h
    rw [e]
    have CL := Lib.hid (lang_yes h w)
    obtain ⟨k, hk, hL, hk2⟩ := okL_k h
    rw [hk2]
    have LM := Lib.hid (days_len hk)
    have C := Lib.hid (show ∀ i x, (days k)[i]? = some x → w.cell? ⟨1, k * 7 + i, none⟩ = some (sV x) from fun i x hx => by
      have hi : i < 7 := by
        have := (List.getElem?_eq_some_iff.1 hx).1
        rw [days_len hk] at this
        exact this
      have e : (days k).getD i [] = x := by rw [List.getD_eq_getElem?_getD, hx]; rfl
      have := T.day k i hk hi
      rwa [e] at this)
    rw [LM.out]
    have l := T.lt
    generalize days k = l1 at *
    subst hL
    clear T h e hk2
    go_enter Tryd.func41, Tryd.ntmps41
    go_wp2_with fail
    with_reducible refine Calls.mono CL.out ?_
    rintro e w' ⟨rfl, rfl⟩
    go_upto_region 4 with (first | (refine wpList_load_part rfl _ _ rfl _ _ 7 _ rfl l1 LM.out Tryd.underlying76 infoweekdaysOf C.out ?_) | (refine wpList_store_row rfl _ _ _ rfl w.heap.size (l1.map sV).toArray rfl rfl 76 _ (heap_alloc_new w _) (by rw [infoweekdaysOf]; simp [LM.out]) (by simp [LM.out]) (all_one l1) ?_))
    rw [World.setRow_alloc_new]
    go_wp2_with fail
    go_ret
    exact ⟨_, rfl, ssl_new _ _ _, (Below.refl _ _).alloc (Nat.le_refl _) _⟩
  · have e : dO L = [] := if_neg h
    rw [e]
    have CL := Lib.hid (lang_no h w)
    clear h T e
    go_enter Tryd.func41, Tryd.ntmps41
    go_wp2_with fail
    with_reducible refine Calls.mono CL.out ?_
    rintro e w' ⟨rfl, rfl⟩
    go_wp2_with fail
    go_ret
    exact ⟨_, rfl, .inl rfl, Below.refl _ _⟩
end Wo
end Go.Proofs.YtebdpdmkehfgfaaDoor
