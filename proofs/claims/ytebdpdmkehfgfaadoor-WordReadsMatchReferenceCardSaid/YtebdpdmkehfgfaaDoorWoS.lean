/- Names found in a table, and Month, Weekday, MonthOf, WeekdayOf. -/
import Derived.Test.YtebdpdmkehfgfaaDoorWoR
set_option linter.unusedVariables false
set_option linter.unusedSimpArgs false
namespace Go.Proofs.YtebdpdmkehfgfaaDoor
open Go.RowKit
namespace Wo
abbrev ptV (b : Nat) : Value := .pointer (some ⟨b, 0, none⟩)
theorem chosen_any (s : Value) (o : Option Addr) (n c : Nat) (hs : s = .slice o n c) (f : Int) (w : World) : Calls Tryd.prog 37 #[s, .int .i64 f] w fun e w' => ∃ b1 b2, e = .returned (.tuple #[.func (.func 49) #[] #[ptV b2, ptV b1], .func (.func 50) #[] #[ptV b1, ptV b2]]) ∧ Has1 w' b1 s ∧ Has1 w' b2 (.int .i64 f) ∧ Below w.heap.size w w' := by
  subst hs
  go_enter Tryd.func37, Tryd.ntmps37
  go_wp2_with fail
  go_ret2
  refine ⟨w.heap.size, w.heap.size + 1, rfl, ⟨?_, ?_⟩, ⟨?_, ?_⟩, ?_⟩
  · simp; omega
  · go_simp
  · simp
  · go_simp
  · exact ((Below.refl _ _).alloc (Nat.le_refl _) _).alloc (by simp) _
set_option maxRecDepth 100000 in
theorem name_any (b1 b2 : Nat) (o : Option Addr) (l : List B) (N : Nat) (f n : Int) (w : World) (h1 : Has1 w b1 (.slice o N N)) (h2 : Has1 w b2 (.int .i64 f)) (hl : l.length = N) (hN : N ≤ 1000) (hf : 0 ≤ f ∧ f ≤ 1) (hn : n ≤ 9223372036854775807) (hS : SSl w o l) :
    Calls Tryd.prog 49 #[.int .i64 n, ptV b2, ptV b1] w fun e w' => e = .returned (.tuple #[sV (nm l f n).1, .int .i64 (nm l f n).2]) ∧ w = w' := by
  obtain ⟨l1, c1⟩ := h1
  obtain ⟨l2, c2⟩ := h2
  obtain ⟨hf0, hf1⟩ := hf
  by_cases hlt : n < f
  · have e : nm l f n = ([], 110) := if_pos (.inl hlt)
    rw [e]
    clear hS hl e
    go_enter Tryd.func49, Tryd.ntmps49
    go_wp2_with fail
    go_ret2
    exact ⟨rfl, rfl⟩
  · obtain ⟨i, hi⟩ : ∃ i : Nat, n - f = i := ⟨(n - f).toNat, by omega⟩
    by_cases hge : N ≤ i
    · have e : nm l f n = ([], 110) := if_pos (.inr (by omega))
      rw [e]
      clear hS hl e
      go_enter Tryd.func49, Tryd.ntmps49
      go_wp2_with fail
      go_ret2
      exact ⟨rfl, rfl⟩
    · have e : nm l f n = (l.getD i [], 0) := (if_neg (by omega)).trans (by rw [hi]; rfl)
      rw [e]
      obtain ⟨b, off, rfl, hb, hc⟩ := hS.cells (fun e => hge (by rw [← hl, e]; exact Nat.zero_le _))
      have c3 := hc i _ (getD_get (by omega))
      generalize l.getD i [] = x at *
      clear hS hc hl e
      go_enter Tryd.func49, Tryd.ntmps49
      go_wp2_with fail
      go_ret2
      exact ⟨rfl, rfl⟩
set_option maxRecDepth 100000 in
theorem numb_any (b1 b2 : Nat) (o : Option Addr) (l : List B) (N : Nat) (f : Int) (s : B) (w : World) (h1 : Has1 w b1 (.slice o N N)) (h2 : Has1 w b2 (.int .i64 f)) (hl : l.length = N) (hN : N ≤ 1000) (hf : 0 ≤ f ∧ f ≤ 1) (hS : SSl w o l) :
    Calls Tryd.prog 50 #[.string (bs s), ptV b1, ptV b2] w fun e w' => e = .returned (.tuple #[.int .i64 (nu l f s).1, .int .i64 (nu l f s).2]) ∧ w = w' := by
  obtain ⟨l1, c1⟩ := h1
  obtain ⟨l2, c2⟩ := h2
  obtain ⟨hf0, hf1⟩ := hf
  have CX := Lib.hid (Index_any o N N l s (bs s) rfl w hl (by omega) hS)
  unfold nu
  unfold idxI at CX
  cases hix : idx s l with
  | none =>
    rw [hix] at CX
    clear hix hS hl
    go_enter Tryd.func50, Tryd.ntmps50
    go_wp2_with fail
    with_reducible refine Calls.mono CX.out ?_
    rintro e w' ⟨rfl, rfl⟩
    go_wp2_with fail
    go_ret2
    exact ⟨rfl, rfl⟩
  | some i =>
    have hil : i < l.length := (List.findIdx?_eq_some_iff_getElem.1 hix).1
    rw [hl] at hil
    rw [hix] at CX
    clear hix hS hl
    go_enter Tryd.func50, Tryd.ntmps50
    go_wp2_with fail
    with_reducible refine Calls.mono CX.out ?_
    rintro e w' ⟨rfl, rfl⟩
    go_wp2_with fail
    go_ret2
    exact ⟨rfl, rfl⟩
theorem mO_len (L : Int) : (mO L).length ≤ 12 := by
  unfold mO
  split
  · rename_i h
    obtain ⟨k, hk, _, e⟩ := okL_k h
    rw [e, months_len hk]
    exact Nat.le_refl _
  · exact Nat.zero_le _
theorem dO_len (L : Int) : (dO L).length ≤ 7 := by
  unfold dO
  split
  · rename_i h
    obtain ⟨k, hk, _, e⟩ := okL_k h
    rw [e, days_len hk]
    exact Nat.le_refl _
  · exact Nat.zero_le _
set_option maxRecDepth 100000 in
theorem Month_any (L n : Int) (w : World) (T : Tab w) (hn : n ≤ 9223372036854775807) : Calls Tryd.prog 14 #[.int .i64 L, .int .i64 n] w fun e w' => e = .returned (.tuple #[sV (nm (mO L) 1 n).1, .int .i64 (nm (mO L) 1 n).2]) ∧ Below w.heap.size w w' := by
  have CM := Lib.hid (monthsOf_any L w T)
  have CN := Lib.hid (fun b1 b2 o W h1 h2 (hS : SSl W o (mO L)) => name_any b1 b2 o (mO L) (mO L).length 1 n W h1 h2 rfl (by have := mO_len L; omega) (by decide) hn hS)
  generalize (mO L).length = N at *
  generalize mO L = l at *
  have BB := Lib.hid (Below.refl w.heap.size w)
  clear T hn
  go_enter Tryd.func14, Tryd.ntmps14
  go_wp2_with fail
  with_reducible refine Calls.mono CM.out ?_
  rintro e w2 ⟨o, rfl, hS, hb⟩
  have HS := Lib.hid hS
  replace BB := Lib.hid (Below.andThen BB.out hb)
  clear hS hb
  go_wp2_with fail
  with_reducible refine Calls.mono (chosen_any _ _ _ _ rfl _ _) ?_
  rintro e w3 ⟨b1, b2, rfl, h1, h2, hb⟩
  replace HS := Lib.hid (HS.out.next hb)
  replace BB := Lib.hid (Below.andThen BB.out hb)
  have H1 := Lib.hid h1
  have H2 := Lib.hid h2
  clear h1 h2 hb
  go_wp2_with fail
  with_reducible refine Calls.mono (CN.out _ _ _ _ H1.out H2.out HS.out) ?_
  rintro e w' ⟨rfl, rfl⟩
  go_wp2_with fail
  go_ret2
  exact ⟨rfl, BB.out⟩
set_option maxRecDepth 100000 in
theorem MonthOf_any (L : Int) (s : B) (w : World) (T : Tab w) : Calls Tryd.prog 19 #[.int .i64 L, .string (bs s)] w fun e w' => e = .returned (.tuple #[.int .i64 (nu (mO L) 1 s).1, .int .i64 (nu (mO L) 1 s).2]) ∧ Below w.heap.size w w' := by
  have CM := Lib.hid (monthsOf_any L w T)
  have CN := Lib.hid (fun b1 b2 o W h1 h2 (hS : SSl W o (mO L)) => numb_any b1 b2 o (mO L) (mO L).length 1 s W h1 h2 rfl (by have := mO_len L; omega) (by decide) hS)
  generalize (mO L).length = N at *
  generalize mO L = l at *
  have BB := Lib.hid (Below.refl w.heap.size w)
  clear T
  go_enter Tryd.func19, Tryd.ntmps19
  go_wp2_with fail
  with_reducible refine Calls.mono CM.out ?_
  rintro e w2 ⟨o, rfl, hS, hb⟩
  have HS := Lib.hid hS
  replace BB := Lib.hid (Below.andThen BB.out hb)
  clear hS hb
  go_wp2_with fail
  with_reducible refine Calls.mono (chosen_any _ _ _ _ rfl _ _) ?_
  rintro e w3 ⟨b1, b2, rfl, h1, h2, hb⟩
  replace HS := Lib.hid (HS.out.next hb)
  replace BB := Lib.hid (Below.andThen BB.out hb)
  have H1 := Lib.hid h1
  have H2 := Lib.hid h2
  clear h1 h2 hb
  go_wp2_with fail
  with_reducible refine Calls.mono (CN.out _ _ _ _ H1.out H2.out HS.out) ?_
  rintro e w' ⟨rfl, rfl⟩
  go_wp2_with fail
  go_ret2
  exact ⟨rfl, BB.out⟩
set_option maxRecDepth 100000 in
theorem Weekday_any (L n : Int) (w : World) (T : Tab w) (hn : n ≤ 9223372036854775807) : Calls Tryd.prog 16 #[.int .i64 L, .int .i64 n] w fun e w' => e = .returned (.tuple #[sV (nm (dO L) 0 n).1, .int .i64 (nm (dO L) 0 n).2]) ∧ Below w.heap.size w w' := by
  have CM := Lib.hid (weekdaysOf_any L w T)
  have CN := Lib.hid (fun b1 b2 o W h1 h2 (hS : SSl W o (dO L)) => name_any b1 b2 o (dO L) (dO L).length 0 n W h1 h2 rfl (by have := dO_len L; omega) (by decide) hn hS)
  generalize (dO L).length = N at *
  generalize dO L = l at *
  have BB := Lib.hid (Below.refl w.heap.size w)
  clear T hn
  go_enter Tryd.func16, Tryd.ntmps16
  go_wp2_with fail
  with_reducible refine Calls.mono CM.out ?_
  rintro e w2 ⟨o, rfl, hS, hb⟩
  have HS := Lib.hid hS
  replace BB := Lib.hid (Below.andThen BB.out hb)
  clear hS hb
  go_wp2_with fail
  with_reducible refine Calls.mono (chosen_any _ _ _ _ rfl _ _) ?_
  rintro e w3 ⟨b1, b2, rfl, h1, h2, hb⟩
  replace HS := Lib.hid (HS.out.next hb)
  replace BB := Lib.hid (Below.andThen BB.out hb)
  have H1 := Lib.hid h1
  have H2 := Lib.hid h2
  clear h1 h2 hb
  go_wp2_with fail
  with_reducible refine Calls.mono (CN.out _ _ _ _ H1.out H2.out HS.out) ?_
  rintro e w' ⟨rfl, rfl⟩
  go_wp2_with fail
  go_ret2
  exact ⟨rfl, BB.out⟩
set_option maxRecDepth 100000 in
theorem WeekdayOf_any (L : Int) (s : B) (w : World) (T : Tab w) : Calls Tryd.prog 21 #[.int .i64 L, .string (bs s)] w fun e w' => e = .returned (.tuple #[.int .i64 (nu (dO L) 0 s).1, .int .i64 (nu (dO L) 0 s).2]) ∧ Below w.heap.size w w' := by
  have CM := Lib.hid (weekdaysOf_any L w T)
  have CN := Lib.hid (fun b1 b2 o W h1 h2 (hS : SSl W o (dO L)) => numb_any b1 b2 o (dO L) (dO L).length 0 s W h1 h2 rfl (by have := dO_len L; omega) (by decide) hS)
  generalize (dO L).length = N at *
  generalize dO L = l at *
  have BB := Lib.hid (Below.refl w.heap.size w)
  clear T
  go_enter Tryd.func21, Tryd.ntmps21
  go_wp2_with fail
  with_reducible refine Calls.mono CM.out ?_
  rintro e w2 ⟨o, rfl, hS, hb⟩
  have HS := Lib.hid hS
  replace BB := Lib.hid (Below.andThen BB.out hb)
  clear hS hb
  go_wp2_with fail
  with_reducible refine Calls.mono (chosen_any _ _ _ _ rfl _ _) ?_
  rintro e w3 ⟨b1, b2, rfl, h1, h2, hb⟩
  replace HS := Lib.hid (HS.out.next hb)
  replace BB := Lib.hid (Below.andThen BB.out hb)
  have H1 := Lib.hid h1
  have H2 := Lib.hid h2
  clear h1 h2 hb
  go_wp2_with fail
  with_reducible refine Calls.mono (CN.out _ _ _ _ H1.out H2.out HS.out) ?_
  rintro e w' ⟨rfl, rfl⟩
  go_wp2_with fail
  go_ret2
  exact ⟨rfl, BB.out⟩
end Wo
end Go.Proofs.YtebdpdmkehfgfaaDoor
