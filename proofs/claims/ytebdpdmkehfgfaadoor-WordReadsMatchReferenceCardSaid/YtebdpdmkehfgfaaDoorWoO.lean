/- number and is, tongue by tongue. -/
import Derived.Test.YtebdpdmkehfgfaaDoorWoN
set_option linter.unusedVariables false
set_option linter.unusedSimpArgs false
namespace Go.Proofs.YtebdpdmkehfgfaaDoor
open Go.RowKit
theorem Row.three {w : World} {b : Nat} {t : TypeId} {v0 v1 v2 : Value} (h : Row w b t [v0, v1, v2]) : w.cell? ⟨b, 0, none⟩ = some v0 ∧ w.cell? ⟨b, 1, none⟩ = some v1 ∧ w.cell? ⟨b, 2, none⟩ = some v2 := ⟨h.cell 0, h.cell 1, h.cell 2⟩
namespace Wo
/-- a number or none, as two results -/
def numV : Option Nat → Value
  | some m => .tuple #[.int .i64 m, .bool true]
  | none => .tuple #[.int .i64 0, .bool false]
theorem number_no {k : Nat} {l : List B} (h : l.length = 0 ∨ l.length > 9) : number k l = none := if_pos h
theorem number_neg {k : Nat} {l : List B} (h : read k l < 0 ∨ read k l > 999999) : number k l = none := by
  unfold number
  split
  · rfl
  · rw [if_pos (by rcases h with h | h; exact .inl h; exact .inr (.inl h))]
theorem number_ne {k m : Nat} {l : List B} (h : read k l = m) (hw : words k m ≠ l) : number k l = none := by
  unfold number
  split
  · rfl
  · rw [h, if_pos (.inr (.inr (by simpa using hw)))]
theorem number_eq {k m : Nat} {l : List B} (h : read k l = m) (hm : m < 1000000) (h0 : l.length ≠ 0) (h9 : l.length ≤ 9) (hw : words k m = l) : number k l = some m := by
  unfold number
  rw [if_neg (by omega), h, if_neg (by rintro (h | h | h); omega; omega; exact h (by simpa using hw))]
  simp
set_option maxRecDepth 100000 in
set_option maxHeartbeats 2000000 in
theorem number0 (o : Option Addr) (n c : Nat) (l : List B) (w : World) (T : Tab w) (hl : l.length = n) (hn : n ≤ 1000000) (hnc : n ≤ c) (hc2 : c ≤ 9223372036854775807) (hs : ∀ s ∈ l, s.length ≤ 1000000) (hS : SSl w o l) :
    Calls Tryd.prog 44 #[.agg #[fnV 53, fnV 54, fnV 55], .slice o n c] w fun e w' => e = .returned (numV (number 0 l)) ∧ Below w.heap.size w w' := by
  by_cases h0 : n = 0
  · rw [number_no (k := 0) (.inl (hl.trans h0))]
    subst h0
    clear T hS hs hl
    go_enter Tryd.func44, Tryd.ntmps44
    go_wp2_with fail
    go_ret2
    exact ⟨rfl, (Below.refl _ _).alloc (Nat.le_refl _) _⟩
  · by_cases h9 : 9 < n
    · rw [number_no (k := 0) (.inr (by omega))]
      have n0 : ((n : Int) == 0) = false := by simp; omega
      clear T hS hs hl
      go_enter Tryd.func44, Tryd.ntmps44
      go_wp2_with fail
      go_ret2
      exact ⟨rfl, (Below.refl _ _).alloc (Nat.le_refl _) _⟩
    · have HS := Lib.hid (show Ws w o n c l from ⟨hS, hl, fun e => h0 (by rw [← hl, e]; rfl), hn, hnc, hc2, hs⟩)
      have n0 : ((n : Int) == 0) = false := by simp; omega
      have HL := Lib.hid hl
      have HT := Lib.hid T
      have BB := Lib.hid (Below.refl w.heap.size w)
      have CG := Lib.hid (fun W (T : Tab W) (H : Ws W o n c l) => (show Calls Tryd.prog 54 #[.slice o n c] W fun e w' => e = .returned (.int .i64 (read 0 l)) ∧ Below W.heap.size W w' from englishGuess_any o n c l W T H))
      obtain ⟨z, hz⟩ : ∃ z, read 0 l = z := ⟨_, rfl⟩
      rw [hz] at CG
      have HZ := Lib.hid hz
      clear hl T hz hS hs
      by_cases hz0 : z < 0 ∨ 999999 < z
      · have HE := Lib.hid (number_neg (k := 0) (l := l) (by rw [HZ.out]; exact hz0))
        generalize number 0 l = R at *
        go_enter Tryd.func44, Tryd.ntmps44
        go_upto_region 1 with (fail)
        refine wp_named fun v1 hq => ?_
        obtain ⟨bR, ebR⟩ : ∃ b, b = w.heap.size := ⟨_, rfl⟩
        have HR := Lib.hid (show Row v1 bR 55 [_, _, _] from by rw [hq, ebR]; exact Row.new _ _ _)
        have hb : Below w.heap.size w v1 := by rw [hq]; exact (Below.refl _ _).alloc (Nat.le_refl _) _
        replace HT := Lib.hid (HT.out.next hb)
        replace HS := Lib.hid (HS.out.next hb)
        replace BB := Lib.hid (Below.andThen BB.out hb)
        rw [← ebR]
        clear hq hb ebR
        obtain ⟨q0, q1, q2⟩ := HR.out.three
        have lr := HR.out.lt
        go_wp2_with fail
        with_reducible refine Calls.mono (CG.out _ HT.out HS.out) ?_
        rintro e w2 ⟨rfl, hb⟩
        replace HT := Lib.hid (HT.out.next hb)
        replace HS := Lib.hid (HS.out.next hb)
        replace HR := Lib.hid (HR.out.next hb)
        replace BB := Lib.hid (Below.andThen BB.out hb)
        clear q0 q1 q2 lr; obtain ⟨q0, q1, q2⟩ := HR.out.three; have lr := HR.out.lt
        clear hb
        go_wp2_with fail
        all_goals
          first
          | omega
          | (go_ret2; exact ⟨by rw [HE.out]; rfl, BB.out⟩)
      · obtain ⟨m, rfl⟩ : ∃ m : Nat, z = m := ⟨z.toNat, by omega⟩
        have hm : m < 1000000 := by omega
        have CW := Lib.hid (fun W (T : Tab W) => (show Calls Tryd.prog 53 #[.int .i64 m] W fun e w' => ∃ v, e = .returned v ∧ OwnS w' W.heap.size v (words 0 m) ∧ Below W.heap.size W w' from englishWords_any m m rfl hm W T))
        have WL := Lib.hid (words_len 0 hm)
        have CE := Lib.hid (fun W o2 c2 (h1 : SSl W o2 (words 0 m)) (H : Ws W o n c l) => Equal_any o2 o (words 0 m).length c2 n c (words 0 m) l W rfl H.len (by have := WL.out; omega) H.nle h1 H.sl)
        by_cases hw : words 0 m = l
        · have HE := Lib.hid (number_eq (k := 0) HZ.out hm (by have := HL.out; omega) (by have := HL.out; omega) hw)
          simp only [decide_eq_true hw] at CE
          generalize number 0 l = R at *
          generalize words 0 m = L2 at *
          clear hw hz0
          go_enter Tryd.func44, Tryd.ntmps44
          go_upto_region 1 with (fail)
          refine wp_named fun v1 hq => ?_
          obtain ⟨bR, ebR⟩ : ∃ b, b = w.heap.size := ⟨_, rfl⟩
          have HR := Lib.hid (show Row v1 bR 55 [_, _, _] from by rw [hq, ebR]; exact Row.new _ _ _)
          have hb : Below w.heap.size w v1 := by rw [hq]; exact (Below.refl _ _).alloc (Nat.le_refl _) _
          replace HT := Lib.hid (HT.out.next hb)
          replace HS := Lib.hid (HS.out.next hb)
          replace BB := Lib.hid (Below.andThen BB.out hb)
          rw [← ebR]
          clear hq hb ebR
          obtain ⟨q0, q1, q2⟩ := HR.out.three
          have lr := HR.out.lt
          go_wp2_with fail
          with_reducible refine Calls.mono (CG.out _ HT.out HS.out) ?_
          rintro e w2 ⟨rfl, hb⟩
          replace HT := Lib.hid (HT.out.next hb)
          replace HS := Lib.hid (HS.out.next hb)
          replace HR := Lib.hid (HR.out.next hb)
          replace BB := Lib.hid (Below.andThen BB.out hb)
          clear q0 q1 q2 lr; obtain ⟨q0, q1, q2⟩ := HR.out.three; have lr := HR.out.lt
          clear hb
          go_wp2_with fail
          with_reducible refine Calls.mono (CW.out _ HT.out) ?_
          rintro e w3 ⟨v, rfl, ho, hb⟩
          replace HT := Lib.hid (HT.out.next hb)
          replace HS := Lib.hid (HS.out.next hb)
          replace BB := Lib.hid (Below.andThen BB.out hb)
          obtain ⟨o2, c2, rfl, -, -, -, hsl⟩ := ho.form; have HX := Lib.hid hsl; clear hsl ho
          clear hb
          go_wp2_with fail
          with_reducible refine Calls.mono (CE.out _ _ _ HX.out HS.out) ?_
          rintro e w4 ⟨rfl, hb⟩
          replace HT := Lib.hid (HT.out.next hb)
          replace BB := Lib.hid (Below.andThen BB.out hb)
          clear hb
          go_wp2_with fail
          go_ret2
          exact ⟨by rw [HE.out]; rfl, BB.out⟩
        · have HE := Lib.hid (number_ne (k := 0) HZ.out hw)
          simp only [decide_eq_false hw] at CE
          generalize number 0 l = R at *
          generalize words 0 m = L2 at *
          clear hw hz0
          go_enter Tryd.func44, Tryd.ntmps44
          go_upto_region 1 with (fail)
          refine wp_named fun v1 hq => ?_
          obtain ⟨bR, ebR⟩ : ∃ b, b = w.heap.size := ⟨_, rfl⟩
          have HR := Lib.hid (show Row v1 bR 55 [_, _, _] from by rw [hq, ebR]; exact Row.new _ _ _)
          have hb : Below w.heap.size w v1 := by rw [hq]; exact (Below.refl _ _).alloc (Nat.le_refl _) _
          replace HT := Lib.hid (HT.out.next hb)
          replace HS := Lib.hid (HS.out.next hb)
          replace BB := Lib.hid (Below.andThen BB.out hb)
          rw [← ebR]
          clear hq hb ebR
          obtain ⟨q0, q1, q2⟩ := HR.out.three
          have lr := HR.out.lt
          go_wp2_with fail
          with_reducible refine Calls.mono (CG.out _ HT.out HS.out) ?_
          rintro e w2 ⟨rfl, hb⟩
          replace HT := Lib.hid (HT.out.next hb)
          replace HS := Lib.hid (HS.out.next hb)
          replace HR := Lib.hid (HR.out.next hb)
          replace BB := Lib.hid (Below.andThen BB.out hb)
          clear q0 q1 q2 lr; obtain ⟨q0, q1, q2⟩ := HR.out.three; have lr := HR.out.lt
          clear hb
          go_wp2_with fail
          with_reducible refine Calls.mono (CW.out _ HT.out) ?_
          rintro e w3 ⟨v, rfl, ho, hb⟩
          replace HT := Lib.hid (HT.out.next hb)
          replace HS := Lib.hid (HS.out.next hb)
          replace BB := Lib.hid (Below.andThen BB.out hb)
          obtain ⟨o2, c2, rfl, -, -, -, hsl⟩ := ho.form; have HX := Lib.hid hsl; clear hsl ho
          clear hb
          go_wp2_with fail
          with_reducible refine Calls.mono (CE.out _ _ _ HX.out HS.out) ?_
          rintro e w4 ⟨rfl, hb⟩
          replace HT := Lib.hid (HT.out.next hb)
          replace BB := Lib.hid (Below.andThen BB.out hb)
          clear hb
          go_wp2_with fail
          go_ret2
          exact ⟨by rw [HE.out]; rfl, BB.out⟩
set_option maxRecDepth 100000 in
set_option maxHeartbeats 2000000 in
theorem number1 (o : Option Addr) (n c : Nat) (l : List B) (w : World) (T : Tab w) (hl : l.length = n) (hn : n ≤ 1000000) (hnc : n ≤ c) (hc2 : c ≤ 9223372036854775807) (hs : ∀ s ∈ l, s.length ≤ 1000000) (hS : SSl w o l) :
    Calls Tryd.prog 44 #[.agg #[fnV 56, fnV 57, fnV 58], .slice o n c] w fun e w' => e = .returned (numV (number 1 l)) ∧ Below w.heap.size w w' := by
  by_cases h0 : n = 0
  · rw [number_no (k := 1) (.inl (hl.trans h0))]
    subst h0
    clear T hS hs hl
    go_enter Tryd.func44, Tryd.ntmps44
    go_wp2_with fail
    go_ret2
    exact ⟨rfl, (Below.refl _ _).alloc (Nat.le_refl _) _⟩
  · by_cases h9 : 9 < n
    · rw [number_no (k := 1) (.inr (by omega))]
      have n0 : ((n : Int) == 0) = false := by simp; omega
      clear T hS hs hl
      go_enter Tryd.func44, Tryd.ntmps44
      go_wp2_with fail
      go_ret2
      exact ⟨rfl, (Below.refl _ _).alloc (Nat.le_refl _) _⟩
    · have HS := Lib.hid (show Ws w o n c l from ⟨hS, hl, fun e => h0 (by rw [← hl, e]; rfl), hn, hnc, hc2, hs⟩)
      have n0 : ((n : Int) == 0) = false := by simp; omega
      have HL := Lib.hid hl
      have HT := Lib.hid T
      have BB := Lib.hid (Below.refl w.heap.size w)
      have CG := Lib.hid (fun W (T : Tab W) (H : Ws W o n c l) => (show Calls Tryd.prog 57 #[.slice o n c] W fun e w' => e = .returned (.int .i64 (read 1 l)) ∧ Below W.heap.size W w' from germanGuess_any o n c l W T H))
      obtain ⟨z, hz⟩ : ∃ z, read 1 l = z := ⟨_, rfl⟩
      rw [hz] at CG
      have HZ := Lib.hid hz
      clear hl T hz hS hs
      by_cases hz0 : z < 0 ∨ 999999 < z
      · have HE := Lib.hid (number_neg (k := 1) (l := l) (by rw [HZ.out]; exact hz0))
        generalize number 1 l = R at *
        go_enter Tryd.func44, Tryd.ntmps44
        go_upto_region 1 with (fail)
        refine wp_named fun v1 hq => ?_
        obtain ⟨bR, ebR⟩ : ∃ b, b = w.heap.size := ⟨_, rfl⟩
        have HR := Lib.hid (show Row v1 bR 55 [_, _, _] from by rw [hq, ebR]; exact Row.new _ _ _)
        have hb : Below w.heap.size w v1 := by rw [hq]; exact (Below.refl _ _).alloc (Nat.le_refl _) _
        replace HT := Lib.hid (HT.out.next hb)
        replace HS := Lib.hid (HS.out.next hb)
        replace BB := Lib.hid (Below.andThen BB.out hb)
        rw [← ebR]
        clear hq hb ebR
        obtain ⟨q0, q1, q2⟩ := HR.out.three
        have lr := HR.out.lt
        go_wp2_with fail
        with_reducible refine Calls.mono (CG.out _ HT.out HS.out) ?_
        rintro e w2 ⟨rfl, hb⟩
        replace HT := Lib.hid (HT.out.next hb)
        replace HS := Lib.hid (HS.out.next hb)
        replace HR := Lib.hid (HR.out.next hb)
        replace BB := Lib.hid (Below.andThen BB.out hb)
        clear q0 q1 q2 lr; obtain ⟨q0, q1, q2⟩ := HR.out.three; have lr := HR.out.lt
        clear hb
        go_wp2_with fail
        all_goals
          first
          | omega
          | (go_ret2; exact ⟨by rw [HE.out]; rfl, BB.out⟩)
      · obtain ⟨m, rfl⟩ : ∃ m : Nat, z = m := ⟨z.toNat, by omega⟩
        have hm : m < 1000000 := by omega
        have CW := Lib.hid (fun W (T : Tab W) => (show Calls Tryd.prog 56 #[.int .i64 m] W fun e w' => ∃ v, e = .returned v ∧ OwnS w' W.heap.size v (words 1 m) ∧ Below W.heap.size W w' from germanWords_any m m rfl hm W T))
        have WL := Lib.hid (words_len 1 hm)
        have CE := Lib.hid (fun W o2 c2 (h1 : SSl W o2 (words 1 m)) (H : Ws W o n c l) => Equal_any o2 o (words 1 m).length c2 n c (words 1 m) l W rfl H.len (by have := WL.out; omega) H.nle h1 H.sl)
        by_cases hw : words 1 m = l
        · have HE := Lib.hid (number_eq (k := 1) HZ.out hm (by have := HL.out; omega) (by have := HL.out; omega) hw)
          simp only [decide_eq_true hw] at CE
          generalize number 1 l = R at *
          generalize words 1 m = L2 at *
          clear hw hz0
          go_enter Tryd.func44, Tryd.ntmps44
          go_upto_region 1 with (fail)
          refine wp_named fun v1 hq => ?_
          obtain ⟨bR, ebR⟩ : ∃ b, b = w.heap.size := ⟨_, rfl⟩
          have HR := Lib.hid (show Row v1 bR 55 [_, _, _] from by rw [hq, ebR]; exact Row.new _ _ _)
          have hb : Below w.heap.size w v1 := by rw [hq]; exact (Below.refl _ _).alloc (Nat.le_refl _) _
          replace HT := Lib.hid (HT.out.next hb)
          replace HS := Lib.hid (HS.out.next hb)
          replace BB := Lib.hid (Below.andThen BB.out hb)
          rw [← ebR]
          clear hq hb ebR
          obtain ⟨q0, q1, q2⟩ := HR.out.three
          have lr := HR.out.lt
          go_wp2_with fail
          with_reducible refine Calls.mono (CG.out _ HT.out HS.out) ?_
          rintro e w2 ⟨rfl, hb⟩
          replace HT := Lib.hid (HT.out.next hb)
          replace HS := Lib.hid (HS.out.next hb)
          replace HR := Lib.hid (HR.out.next hb)
          replace BB := Lib.hid (Below.andThen BB.out hb)
          clear q0 q1 q2 lr; obtain ⟨q0, q1, q2⟩ := HR.out.three; have lr := HR.out.lt
          clear hb
          go_wp2_with fail
          with_reducible refine Calls.mono (CW.out _ HT.out) ?_
          rintro e w3 ⟨v, rfl, ho, hb⟩
          replace HT := Lib.hid (HT.out.next hb)
          replace HS := Lib.hid (HS.out.next hb)
          replace BB := Lib.hid (Below.andThen BB.out hb)
          obtain ⟨o2, c2, rfl, -, -, -, hsl⟩ := ho.form; have HX := Lib.hid hsl; clear hsl ho
          clear hb
          go_wp2_with fail
          with_reducible refine Calls.mono (CE.out _ _ _ HX.out HS.out) ?_
          rintro e w4 ⟨rfl, hb⟩
          replace HT := Lib.hid (HT.out.next hb)
          replace BB := Lib.hid (Below.andThen BB.out hb)
          clear hb
          go_wp2_with fail
          go_ret2
          exact ⟨by rw [HE.out]; rfl, BB.out⟩
        · have HE := Lib.hid (number_ne (k := 1) HZ.out hw)
          simp only [decide_eq_false hw] at CE
          generalize number 1 l = R at *
          generalize words 1 m = L2 at *
          clear hw hz0
          go_enter Tryd.func44, Tryd.ntmps44
          go_upto_region 1 with (fail)
          refine wp_named fun v1 hq => ?_
          obtain ⟨bR, ebR⟩ : ∃ b, b = w.heap.size := ⟨_, rfl⟩
          have HR := Lib.hid (show Row v1 bR 55 [_, _, _] from by rw [hq, ebR]; exact Row.new _ _ _)
          have hb : Below w.heap.size w v1 := by rw [hq]; exact (Below.refl _ _).alloc (Nat.le_refl _) _
          replace HT := Lib.hid (HT.out.next hb)
          replace HS := Lib.hid (HS.out.next hb)
          replace BB := Lib.hid (Below.andThen BB.out hb)
          rw [← ebR]
          clear hq hb ebR
          obtain ⟨q0, q1, q2⟩ := HR.out.three
          have lr := HR.out.lt
          go_wp2_with fail
          with_reducible refine Calls.mono (CG.out _ HT.out HS.out) ?_
          rintro e w2 ⟨rfl, hb⟩
          replace HT := Lib.hid (HT.out.next hb)
          replace HS := Lib.hid (HS.out.next hb)
          replace HR := Lib.hid (HR.out.next hb)
          replace BB := Lib.hid (Below.andThen BB.out hb)
          clear q0 q1 q2 lr; obtain ⟨q0, q1, q2⟩ := HR.out.three; have lr := HR.out.lt
          clear hb
          go_wp2_with fail
          with_reducible refine Calls.mono (CW.out _ HT.out) ?_
          rintro e w3 ⟨v, rfl, ho, hb⟩
          replace HT := Lib.hid (HT.out.next hb)
          replace HS := Lib.hid (HS.out.next hb)
          replace BB := Lib.hid (Below.andThen BB.out hb)
          obtain ⟨o2, c2, rfl, -, -, -, hsl⟩ := ho.form; have HX := Lib.hid hsl; clear hsl ho
          clear hb
          go_wp2_with fail
          with_reducible refine Calls.mono (CE.out _ _ _ HX.out HS.out) ?_
          rintro e w4 ⟨rfl, hb⟩
          replace HT := Lib.hid (HT.out.next hb)
          replace BB := Lib.hid (Below.andThen BB.out hb)
          clear hb
          go_wp2_with fail
          go_ret2
          exact ⟨by rw [HE.out]; rfl, BB.out⟩
set_option maxRecDepth 100000 in
set_option maxHeartbeats 2000000 in
theorem number2 (o : Option Addr) (n c : Nat) (l : List B) (w : World) (T : Tab w) (hl : l.length = n) (hn : n ≤ 1000000) (hnc : n ≤ c) (hc2 : c ≤ 9223372036854775807) (hs : ∀ s ∈ l, s.length ≤ 1000000) (hS : SSl w o l) :
    Calls Tryd.prog 44 #[.agg #[fnV 59, fnV 60, fnV 61], .slice o n c] w fun e w' => e = .returned (numV (number 2 l)) ∧ Below w.heap.size w w' := by
  by_cases h0 : n = 0
  · rw [number_no (k := 2) (.inl (hl.trans h0))]
    subst h0
    clear T hS hs hl
    go_enter Tryd.func44, Tryd.ntmps44
    go_wp2_with fail
    go_ret2
    exact ⟨rfl, (Below.refl _ _).alloc (Nat.le_refl _) _⟩
  · by_cases h9 : 9 < n
    · rw [number_no (k := 2) (.inr (by omega))]
      have n0 : ((n : Int) == 0) = false := by simp; omega
      clear T hS hs hl
      go_enter Tryd.func44, Tryd.ntmps44
      go_wp2_with fail
      go_ret2
      exact ⟨rfl, (Below.refl _ _).alloc (Nat.le_refl _) _⟩
    · have HS := Lib.hid (show Ws w o n c l from ⟨hS, hl, fun e => h0 (by rw [← hl, e]; rfl), hn, hnc, hc2, hs⟩)
      have n0 : ((n : Int) == 0) = false := by simp; omega
      have HL := Lib.hid hl
      have HT := Lib.hid T
      have BB := Lib.hid (Below.refl w.heap.size w)
      have CG := Lib.hid (fun W (T : Tab W) (H : Ws W o n c l) => (show Calls Tryd.prog 60 #[.slice o n c] W fun e w' => e = .returned (.int .i64 (read 2 l)) ∧ Below W.heap.size W w' from spanishGuess_any o n c l W T H))
      obtain ⟨z, hz⟩ : ∃ z, read 2 l = z := ⟨_, rfl⟩
      rw [hz] at CG
      have HZ := Lib.hid hz
      clear hl T hz hS hs
      by_cases hz0 : z < 0 ∨ 999999 < z
      · have HE := Lib.hid (number_neg (k := 2) (l := l) (by rw [HZ.out]; exact hz0))
        generalize number 2 l = R at *
        go_enter Tryd.func44, Tryd.ntmps44
        go_upto_region 1 with (fail)
        refine wp_named fun v1 hq => ?_
        obtain ⟨bR, ebR⟩ : ∃ b, b = w.heap.size := ⟨_, rfl⟩
        have HR := Lib.hid (show Row v1 bR 55 [_, _, _] from by rw [hq, ebR]; exact Row.new _ _ _)
        have hb : Below w.heap.size w v1 := by rw [hq]; exact (Below.refl _ _).alloc (Nat.le_refl _) _
        replace HT := Lib.hid (HT.out.next hb)
        replace HS := Lib.hid (HS.out.next hb)
        replace BB := Lib.hid (Below.andThen BB.out hb)
        rw [← ebR]
        clear hq hb ebR
        obtain ⟨q0, q1, q2⟩ := HR.out.three
        have lr := HR.out.lt
        go_wp2_with fail
        with_reducible refine Calls.mono (CG.out _ HT.out HS.out) ?_
        rintro e w2 ⟨rfl, hb⟩
        replace HT := Lib.hid (HT.out.next hb)
        replace HS := Lib.hid (HS.out.next hb)
        replace HR := Lib.hid (HR.out.next hb)
        replace BB := Lib.hid (Below.andThen BB.out hb)
        clear q0 q1 q2 lr; obtain ⟨q0, q1, q2⟩ := HR.out.three; have lr := HR.out.lt
        clear hb
        go_wp2_with fail
        all_goals
          first
          | omega
          | (go_ret2; exact ⟨by rw [HE.out]; rfl, BB.out⟩)
      · obtain ⟨m, rfl⟩ : ∃ m : Nat, z = m := ⟨z.toNat, by omega⟩
        have hm : m < 1000000 := by omega
        have CW := Lib.hid (fun W (T : Tab W) => (show Calls Tryd.prog 59 #[.int .i64 m] W fun e w' => ∃ v, e = .returned v ∧ OwnS w' W.heap.size v (words 2 m) ∧ Below W.heap.size W w' from spanishWords_any m m rfl hm W T))
        have WL := Lib.hid (words_len 2 hm)
        have CE := Lib.hid (fun W o2 c2 (h1 : SSl W o2 (words 2 m)) (H : Ws W o n c l) => Equal_any o2 o (words 2 m).length c2 n c (words 2 m) l W rfl H.len (by have := WL.out; omega) H.nle h1 H.sl)
        by_cases hw : words 2 m = l
        · have HE := Lib.hid (number_eq (k := 2) HZ.out hm (by have := HL.out; omega) (by have := HL.out; omega) hw)
          simp only [decide_eq_true hw] at CE
          generalize number 2 l = R at *
          generalize words 2 m = L2 at *
          clear hw hz0
          go_enter Tryd.func44, Tryd.ntmps44
          go_upto_region 1 with (fail)
          refine wp_named fun v1 hq => ?_
          obtain ⟨bR, ebR⟩ : ∃ b, b = w.heap.size := ⟨_, rfl⟩
          have HR := Lib.hid (show Row v1 bR 55 [_, _, _] from by rw [hq, ebR]; exact Row.new _ _ _)
          have hb : Below w.heap.size w v1 := by rw [hq]; exact (Below.refl _ _).alloc (Nat.le_refl _) _
          replace HT := Lib.hid (HT.out.next hb)
          replace HS := Lib.hid (HS.out.next hb)
          replace BB := Lib.hid (Below.andThen BB.out hb)
          rw [← ebR]
          clear hq hb ebR
          obtain ⟨q0, q1, q2⟩ := HR.out.three
          have lr := HR.out.lt
          go_wp2_with fail
          with_reducible refine Calls.mono (CG.out _ HT.out HS.out) ?_
          rintro e w2 ⟨rfl, hb⟩
          replace HT := Lib.hid (HT.out.next hb)
          replace HS := Lib.hid (HS.out.next hb)
          replace HR := Lib.hid (HR.out.next hb)
          replace BB := Lib.hid (Below.andThen BB.out hb)
          clear q0 q1 q2 lr; obtain ⟨q0, q1, q2⟩ := HR.out.three; have lr := HR.out.lt
          clear hb
          go_wp2_with fail
          with_reducible refine Calls.mono (CW.out _ HT.out) ?_
          rintro e w3 ⟨v, rfl, ho, hb⟩
          replace HT := Lib.hid (HT.out.next hb)
          replace HS := Lib.hid (HS.out.next hb)
          replace BB := Lib.hid (Below.andThen BB.out hb)
          obtain ⟨o2, c2, rfl, -, -, -, hsl⟩ := ho.form; have HX := Lib.hid hsl; clear hsl ho
          clear hb
          go_wp2_with fail
          with_reducible refine Calls.mono (CE.out _ _ _ HX.out HS.out) ?_
          rintro e w4 ⟨rfl, hb⟩
          replace HT := Lib.hid (HT.out.next hb)
          replace BB := Lib.hid (Below.andThen BB.out hb)
          clear hb
          go_wp2_with fail
          go_ret2
          exact ⟨by rw [HE.out]; rfl, BB.out⟩
        · have HE := Lib.hid (number_ne (k := 2) HZ.out hw)
          simp only [decide_eq_false hw] at CE
          generalize number 2 l = R at *
          generalize words 2 m = L2 at *
          clear hw hz0
          go_enter Tryd.func44, Tryd.ntmps44
          go_upto_region 1 with (fail)
          refine wp_named fun v1 hq => ?_
          obtain ⟨bR, ebR⟩ : ∃ b, b = w.heap.size := ⟨_, rfl⟩
          have HR := Lib.hid (show Row v1 bR 55 [_, _, _] from by rw [hq, ebR]; exact Row.new _ _ _)
          have hb : Below w.heap.size w v1 := by rw [hq]; exact (Below.refl _ _).alloc (Nat.le_refl _) _
          replace HT := Lib.hid (HT.out.next hb)
          replace HS := Lib.hid (HS.out.next hb)
          replace BB := Lib.hid (Below.andThen BB.out hb)
          rw [← ebR]
          clear hq hb ebR
          obtain ⟨q0, q1, q2⟩ := HR.out.three
          have lr := HR.out.lt
          go_wp2_with fail
          with_reducible refine Calls.mono (CG.out _ HT.out HS.out) ?_
          rintro e w2 ⟨rfl, hb⟩
          replace HT := Lib.hid (HT.out.next hb)
          replace HS := Lib.hid (HS.out.next hb)
          replace HR := Lib.hid (HR.out.next hb)
          replace BB := Lib.hid (Below.andThen BB.out hb)
          clear q0 q1 q2 lr; obtain ⟨q0, q1, q2⟩ := HR.out.three; have lr := HR.out.lt
          clear hb
          go_wp2_with fail
          with_reducible refine Calls.mono (CW.out _ HT.out) ?_
          rintro e w3 ⟨v, rfl, ho, hb⟩
          replace HT := Lib.hid (HT.out.next hb)
          replace HS := Lib.hid (HS.out.next hb)
          replace BB := Lib.hid (Below.andThen BB.out hb)
          obtain ⟨o2, c2, rfl, -, -, -, hsl⟩ := ho.form; have HX := Lib.hid hsl; clear hsl ho
          clear hb
          go_wp2_with fail
          with_reducible refine Calls.mono (CE.out _ _ _ HX.out HS.out) ?_
          rintro e w4 ⟨rfl, hb⟩
          replace HT := Lib.hid (HT.out.next hb)
          replace BB := Lib.hid (Below.andThen BB.out hb)
          clear hb
          go_wp2_with fail
          go_ret2
          exact ⟨by rw [HE.out]; rfl, BB.out⟩
end Wo
end Go.Proofs.YtebdpdmkehfgfaaDoor
