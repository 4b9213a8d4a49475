/- What words may stand for: guess, and the three tongues' guesses. -/
import Derived.Test.YtebdpdmkehfgfaaDoorWoG
set_option linter.unusedVariables false
set_option linter.unusedSimpArgs false
namespace Go.Proofs.YtebdpdmkehfgfaaDoor
open Go.RowKit
namespace Wo
theorem orNone_le {n m : Int} (h1 : n ≤ 9000) (h2 : m ≤ 99) : -1 ≤ orNone n m ∧ orNone n m ≤ 9099 := by
  unfold orNone
  split <;> omega
theorem enTail_le {n : Int} (h : n ≤ 9000) (l : List B) : -1 ≤ enTail n l ∧ enTail n l ≤ 9099 := by
  unfold enTail
  split
  · refine orNone_le h ?_
    split
    · exact (tao_le _ _ (simple_le (by decide) _).2).2
    · have := (simple_le (k := 0) (by decide) (by assumption)).2
      omega
  · decide
theorem enSmall_le (l : List B) : -100 ≤ enSmall l ∧ enSmall l ≤ 9099 := by
  unfold enSmall
  split
  · rename_i a _ _
    have := simple_le (k := 0) (by decide) a
    split
    · split
      · omega
      · have := enTail_le (n := 100 * simple 0 a) (by omega) (by assumption)
        omega
    · have := enTail_le (n := 0) (by omega) (a :: by assumption :: by assumption)
      omega
  · have := enTail_le (n := 0) (by omega) l
    omega
theorem deTail_le {n : Int} (h : n ≤ 9000) (s : B) : -1 ≤ deTail n s ∧ deTail n s ≤ 9099 := by
  unfold deTail
  refine orNone_le h ?_
  split
  · exact (tao_le _ _ (simple_le (by decide) _).2).2
  · have := (simple_le (k := 1) (by decide) s).2
    omega
theorem deSmall_le (l : List B) : -100 ≤ deSmall l ∧ deSmall l ≤ 9099 := by
  unfold deSmall
  split
  · split
    · rename_i h _ _
      have := deOne_le h
      split
      · omega
      · have := deTail_le (n := 100 * deOne h) (by omega) (by assumption)
        omega
    · have := deTail_le (n := 0) (by omega) (by assumption)
      omega
  · decide
theorem esTail_le {n : Int} (h0 : -1 ≤ n) (h : n ≤ 9000) (l : List B) : -1 ≤ esTail n l ∧ esTail n l ≤ 9099 := by
  have f : ∀ m : Int, m ≤ 99 → -1 ≤ (if m < 0 then -1 else n + m) ∧ (if m < 0 then -1 else n + m) ≤ 9099 := by
    intro m hm
    split <;> omega
  unfold esTail
  split
  · omega
  · refine f _ ?_
    split
    · exact (tao_le _ _ (by decide)).2
    · have := (esOne_le (by assumption)).2
      omega
  · split
    · exact f _ (tao_le _ _ (simple_le (by decide) _).2).2
    · decide
  · decide
theorem esSmall_le (l : List B) : -100 ≤ esSmall l ∧ esSmall l ≤ 9099 := by
  unfold esSmall
  split
  · decide
  · rename_i s l
    split
    · have := esTail_le (n := 100) (by decide) (by decide) l
      omega
    · split
      · rename_i i hi
        have h9 : i < 9 := (List.findIdx?_eq_some_iff_getElem.1 hi).1
        have := esTail_le (n := 100 * ((i : Int) + 1)) (by omega) (by omega) l
        omega
      · have := esTail_le (n := 0) (by decide) (by decide) (s :: l)
        omega
/-- what a slice of words for a reader holds -/
structure Ws (w : World) (o : Option Addr) (n c : Nat) (l : List B) : Prop where
  sl : SSl w o l
  len : l.length = n
  ne : l ≠ []
  nle : n ≤ 1000000
  cap : n ≤ c
  big : c ≤ 9223372036854775807
  small : ∀ s ∈ l, s.length ≤ 1000000
theorem Ws.next {w w' : World} {o : Option Addr} {n c : Nat} {l : List B} (h : Ws w o n c l) (hb : Below w.heap.size w w') : Ws w' o n c l := ⟨h.sl.next hb, h.len, h.ne, h.nle, h.cap, h.big, h.small⟩
theorem Ws.take {w : World} {o : Option Addr} {n c : Nat} {l : List B} (h : Ws w o n c l) {i : Nat} (h0 : 0 < i) (hi : i < n) : Ws w o i c (l.take i) := by
  have hl := h.len
  refine ⟨h.sl.take i, by rw [List.length_take]; omega, fun e => ?_, by have := h.nle; omega, by have := h.cap; omega, h.big, fun s hs => h.small s (List.mem_of_mem_take hs)⟩
  have := congrArg List.length e
  rw [List.length_take, List.length_nil] at this
  omega
theorem Ws.drop {w : World} {b off : Nat} {n c : Nat} {l : List B} (h : Ws w (some ⟨b, off, none⟩) n c l) {i : Nat} (hi : i < n) : Ws w (some ⟨b, off + i, none⟩) (n - i) (c - i) (l.drop i) := by
  have hl := h.len
  refine ⟨h.sl.drop i, by rw [List.length_drop]; omega, fun e => ?_, by have := h.nle; omega, by have := h.cap; omega, by have := h.big; omega, fun s hs => h.small s (List.mem_of_mem_drop hs)⟩
  have := congrArg List.length e
  rw [List.length_drop, List.length_nil] at this
  omega
theorem englishSmall_ws (o : Option Addr) (n c : Nat) (l : List B) (w : World) (T : Tab w) (h : Ws w o n c l) : Calls Tryd.prog 65 #[.slice o n c] w fun e w' => e = .returned (.int .i64 (enSmall l)) ∧ Below w.heap.size w w' :=
  englishSmall_any o n c l w T h.len  h.nle h.cap h.big h.small h.sl
set_option maxRecDepth 100000 in
set_option maxHeartbeats 2000000 in
theorem guess_englishSmall (o : Option Addr) (n c : Nat) (l : List B) (A : Int) (hA : -1 ≤ A ∧ A ≤ 1) (p : ByteArray) (hp : p = bs thousand) (w : World) (T : Tab w) (h : Ws w o n c l) :
    Calls Tryd.prog 64 #[.slice o n c, .string p, .int .i64 A, .func (.func 65) #[] #[]] w fun e w' => e = .returned (.int .i64 (guess thousand A enSmall l)) ∧ Below w.heap.size w w' := by
  have HT := Lib.hid T
  have BB := Lib.hid (Below.refl w.heap.size w)
  have HS := Lib.hid h
  have CX := Lib.hid (Index_any o n c l thousand p hp w h.len h.nle h.sl)
  have hnc := h.cap
  have hc2 := h.big
  have hn := h.nle
  have hl := h.len
  obtain ⟨b, off, rfl, hb, hc⟩ := h.sl.cells h.ne
  have HD := Lib.hid (show guess thousand A enSmall l = match idx thousand l with
    | none => enSmall l
    | some i => if (if i > 0 then enSmall (l.take i) else A) < 0 ∨ (if i + 1 < l.length then enSmall (l.drop (i + 1)) else 0) < 0 then -1 else 1000 * (if i > 0 then enSmall (l.take i) else A) + (if i + 1 < l.length then enSmall (l.drop (i + 1)) else 0) from rfl)
  rw [hl] at HD
  generalize guess thousand A enSmall l = D at *
  clear hc T hp
  cases hix : idx thousand l with
  | none =>
    rw [hix] at HD
    replace HD := Lib.hid (HD.out.trans (show _ = enSmall l from rfl))
    rw [show idxI thousand l = -1 by unfold idxI; rw [hix]] at CX
    clear hix hl h
    go_enter Tryd.func64, Tryd.ntmps64
    go_wp2_with fail
    with_reducible refine Calls.mono CX.out ?_
    rintro e w' ⟨rfl, rfl⟩
    go_wp2_with fail
    with_reducible refine Calls.mono (englishSmall_ws _ n c l _ HT.out HS.out) ?_
    rintro e w2 ⟨rfl, hb2⟩
    have HB := Lib.hid hb2
    clear hb2
    go_wp2_with fail
    go_ret
    exact ⟨retv (vint HD.out.symm), HB.out⟩
  | some i =>
    have hil : i < l.length := (List.findIdx?_eq_some_iff_getElem.1 hix).1
    rw [hl] at hil
    rw [hix] at HD
    rw [show idxI thousand l = (i : Int) by unfold idxI; rw [hix]] at CX
    clear hix hl
    by_cases h0 : 0 < i
    · have b1 := enSmall_le (l.take i)
      have CQ := Lib.hid (fun W (T : Tab W) (H : Ws W (some ⟨b, off, none⟩) n c l) => englishSmall_ws _ i c (l.take i) W T (H.take h0 hil))
      by_cases h1 : i + 1 < n
      · have b2 := enSmall_le (l.drop (i + 1))
        have hcc : ¬ (c : Int) = i + 1 := by omega
        have CR := Lib.hid (fun W (T : Tab W) (H : Ws W (some ⟨b, off, none⟩) n c l) => englishSmall_ws _ (n - (i + 1)) (c - (i + 1)) (l.drop (i + 1)) W T (H.drop h1))
        replace HD := Lib.hid (HD.out.trans (show _ = if enSmall (l.take i) < 0 ∨ enSmall (l.drop (i + 1)) < 0 then -1 else 1000 * enSmall (l.take i) + enSmall (l.drop (i + 1)) from by simp only [gt_iff_lt, if_pos h0, if_pos h1]))
        generalize enSmall (l.take i) = q at *
        generalize enSmall (l.drop (i + 1)) = r at *
        clear h
        go_enter Tryd.func64, Tryd.ntmps64
        go_wp2_with fail
        with_reducible refine Calls.mono CX.out ?_
        rintro e w' ⟨rfl, rfl⟩
        go_wp2_with fail
        with_reducible refine Calls.mono (CQ.out _ HT.out HS.out) ?_
        rintro e w2 ⟨rfl, hb⟩
        replace HT := Lib.hid (HT.out.next hb)
        replace HS := Lib.hid (HS.out.next hb)
        replace BB := Lib.hid (Below.andThen BB.out hb)
        clear hb
        go_wp2_with fail
        with_reducible refine Calls.mono (CR.out _ HT.out HS.out) ?_
        rintro e w3 ⟨rfl, hb⟩
        replace HT := Lib.hid (HT.out.next hb)
        replace HS := Lib.hid (HS.out.next hb)
        replace BB := Lib.hid (Below.andThen BB.out hb)
        clear hb
        go_wp2_with fail
        all_goals
          go_ret
          refine ⟨retv (vint ?_), BB.out⟩
          rw [HD.out]
          first | (rw [if_pos (by omega)]; done) | (rw [if_neg (by omega)]; done) | (rw [if_neg (by omega)]; omega)
      · replace HD := Lib.hid (HD.out.trans (show _ = if enSmall (l.take i) < 0 ∨ (0 : Int) < 0 then -1 else 1000 * enSmall (l.take i) + 0 from by simp only [gt_iff_lt, if_pos h0, if_neg h1]))
        generalize enSmall (l.take i) = q at *
        clear h
        go_enter Tryd.func64, Tryd.ntmps64
        go_wp2_with fail
        with_reducible refine Calls.mono CX.out ?_
        rintro e w' ⟨rfl, rfl⟩
        go_wp2_with fail
        with_reducible refine Calls.mono (CQ.out _ HT.out HS.out) ?_
        rintro e w2 ⟨rfl, hb⟩
        replace HT := Lib.hid (HT.out.next hb)
        replace HS := Lib.hid (HS.out.next hb)
        replace BB := Lib.hid (Below.andThen BB.out hb)
        clear hb
        go_wp2_with fail
        all_goals
          go_ret
          refine ⟨retv (vint ?_), BB.out⟩
          rw [HD.out]
          first | (rw [if_pos (by omega)]; done) | (rw [if_neg (by omega)]; done) | (rw [if_neg (by omega)]; omega)
    · obtain rfl : i = 0 := by omega
      by_cases h1 : 0 + 1 < n
      · have b2 := enSmall_le (l.drop (0 + 1))
        have hcc : ¬ (c : Int) = 1 := by omega
        have CR := Lib.hid (fun W (T : Tab W) (H : Ws W (some ⟨b, off, none⟩) n c l) => englishSmall_ws _ (n - (0 + 1)) (c - (0 + 1)) (l.drop (0 + 1)) W T (H.drop h1))
        replace HD := Lib.hid (HD.out.trans (show _ = if A < 0 ∨ enSmall (l.drop (0 + 1)) < 0 then -1 else 1000 * A + enSmall (l.drop (0 + 1)) from by simp only [gt_iff_lt, if_neg h0, if_pos h1]))
        generalize enSmall (l.drop (0 + 1)) = r at *
        clear h
        go_enter Tryd.func64, Tryd.ntmps64
        go_wp2_with fail
        with_reducible refine Calls.mono CX.out ?_
        rintro e w' ⟨rfl, rfl⟩
        go_wp2_with fail
        with_reducible refine Calls.mono (CR.out _ HT.out HS.out) ?_
        rintro e w3 ⟨rfl, hb⟩
        replace HT := Lib.hid (HT.out.next hb)
        replace HS := Lib.hid (HS.out.next hb)
        replace BB := Lib.hid (Below.andThen BB.out hb)
        clear hb
        go_wp2_with fail
        all_goals
          go_ret
          refine ⟨retv (vint ?_), BB.out⟩
          rw [HD.out]
          first | (rw [if_pos (by omega)]; done) | (rw [if_neg (by omega)]; done) | (rw [if_neg (by omega)]; omega)
      · replace HD := Lib.hid (HD.out.trans (show _ = if A < 0 ∨ (0 : Int) < 0 then -1 else 1000 * A + 0 from by simp only [gt_iff_lt, if_neg h0, if_neg h1]))
        clear h
        go_enter Tryd.func64, Tryd.ntmps64
        go_wp2_with fail
        with_reducible refine Calls.mono CX.out ?_
        rintro e w' ⟨rfl, rfl⟩
        go_wp2_with fail
        all_goals
          go_ret
          refine ⟨retv (vint ?_), BB.out⟩
          rw [HD.out]
          first | (rw [if_pos (by omega)]; done) | (rw [if_neg (by omega)]; done) | (rw [if_neg (by omega)]; omega)
theorem spanishSmall_ws (o : Option Addr) (n c : Nat) (l : List B) (w : World) (T : Tab w) (h : Ws w o n c l) : Calls Tryd.prog 71 #[.slice o n c] w fun e w' => e = .returned (.int .i64 (esSmall l)) ∧ Below w.heap.size w w' :=
  spanishSmall_any o n c l w T h.len h.ne h.nle h.cap h.big h.small h.sl
set_option maxRecDepth 100000 in
set_option maxHeartbeats 2000000 in
theorem guess_spanishSmall (o : Option Addr) (n c : Nat) (l : List B) (A : Int) (hA : -1 ≤ A ∧ A ≤ 1) (p : ByteArray) (hp : p = bs mil) (w : World) (T : Tab w) (h : Ws w o n c l) :
    Calls Tryd.prog 64 #[.slice o n c, .string p, .int .i64 A, .func (.func 71) #[] #[]] w fun e w' => e = .returned (.int .i64 (guess mil A esSmall l)) ∧ Below w.heap.size w w' := by
  have HT := Lib.hid T
  have BB := Lib.hid (Below.refl w.heap.size w)
  have HS := Lib.hid h
  have CX := Lib.hid (Index_any o n c l mil p hp w h.len h.nle h.sl)
  have hnc := h.cap
  have hc2 := h.big
  have hn := h.nle
  have hl := h.len
  obtain ⟨b, off, rfl, hb, hc⟩ := h.sl.cells h.ne
  have HD := Lib.hid (show guess mil A esSmall l = match idx mil l with
    | none => esSmall l
    | some i => if (if i > 0 then esSmall (l.take i) else A) < 0 ∨ (if i + 1 < l.length then esSmall (l.drop (i + 1)) else 0) < 0 then -1 else 1000 * (if i > 0 then esSmall (l.take i) else A) + (if i + 1 < l.length then esSmall (l.drop (i + 1)) else 0) from rfl)
  rw [hl] at HD
  generalize guess mil A esSmall l = D at *
  clear hc T hp
  cases hix : idx mil l with
  | none =>
    rw [hix] at HD
    replace HD := Lib.hid (HD.out.trans (show _ = esSmall l from rfl))
    rw [show idxI mil l = -1 by unfold idxI; rw [hix]] at CX
    clear hix hl h
    go_enter Tryd.func64, Tryd.ntmps64
    go_wp2_with fail
    with_reducible refine Calls.mono CX.out ?_
    rintro e w' ⟨rfl, rfl⟩
    go_wp2_with fail
    with_reducible refine Calls.mono (spanishSmall_ws _ n c l _ HT.out HS.out) ?_
    rintro e w2 ⟨rfl, hb2⟩
    have HB := Lib.hid hb2
    clear hb2
    go_wp2_with fail
    go_ret
    exact ⟨retv (vint HD.out.symm), HB.out⟩
  | some i =>
    have hil : i < l.length := (List.findIdx?_eq_some_iff_getElem.1 hix).1
    rw [hl] at hil
    rw [hix] at HD
    rw [show idxI mil l = (i : Int) by unfold idxI; rw [hix]] at CX
    clear hix hl
    by_cases h0 : 0 < i
    · have b1 := esSmall_le (l.take i)
      have CQ := Lib.hid (fun W (T : Tab W) (H : Ws W (some ⟨b, off, none⟩) n c l) => spanishSmall_ws _ i c (l.take i) W T (H.take h0 hil))
      by_cases h1 : i + 1 < n
      · have b2 := esSmall_le (l.drop (i + 1))
        have hcc : ¬ (c : Int) = i + 1 := by omega
        have CR := Lib.hid (fun W (T : Tab W) (H : Ws W (some ⟨b, off, none⟩) n c l) => spanishSmall_ws _ (n - (i + 1)) (c - (i + 1)) (l.drop (i + 1)) W T (H.drop h1))
        replace HD := Lib.hid (HD.out.trans (show _ = if esSmall (l.take i) < 0 ∨ esSmall (l.drop (i + 1)) < 0 then -1 else 1000 * esSmall (l.take i) + esSmall (l.drop (i + 1)) from by simp only [gt_iff_lt, if_pos h0, if_pos h1]))
        generalize esSmall (l.take i) = q at *
        generalize esSmall (l.drop (i + 1)) = r at *
        clear h
        go_enter Tryd.func64, Tryd.ntmps64
        go_wp2_with fail
        with_reducible refine Calls.mono CX.out ?_
        rintro e w' ⟨rfl, rfl⟩
        go_wp2_with fail
        with_reducible refine Calls.mono (CQ.out _ HT.out HS.out) ?_
        rintro e w2 ⟨rfl, hb⟩
        replace HT := Lib.hid (HT.out.next hb)
        replace HS := Lib.hid (HS.out.next hb)
        replace BB := Lib.hid (Below.andThen BB.out hb)
        clear hb
        go_wp2_with fail
        with_reducible refine Calls.mono (CR.out _ HT.out HS.out) ?_
        rintro e w3 ⟨rfl, hb⟩
        replace HT := Lib.hid (HT.out.next hb)
        replace HS := Lib.hid (HS.out.next hb)
        replace BB := Lib.hid (Below.andThen BB.out hb)
        clear hb
        go_wp2_with fail
        all_goals
          go_ret
          refine ⟨retv (vint ?_), BB.out⟩
          rw [HD.out]
          first | (rw [if_pos (by omega)]; done) | (rw [if_neg (by omega)]; done) | (rw [if_neg (by omega)]; omega)
      · replace HD := Lib.hid (HD.out.trans (show _ = if esSmall (l.take i) < 0 ∨ (0 : Int) < 0 then -1 else 1000 * esSmall (l.take i) + 0 from by simp only [gt_iff_lt, if_pos h0, if_neg h1]))
        generalize esSmall (l.take i) = q at *
        clear h
        go_enter Tryd.func64, Tryd.ntmps64
        go_wp2_with fail
        with_reducible refine Calls.mono CX.out ?_
        rintro e w' ⟨rfl, rfl⟩
        go_wp2_with fail
        with_reducible refine Calls.mono (CQ.out _ HT.out HS.out) ?_
        rintro e w2 ⟨rfl, hb⟩
        replace HT := Lib.hid (HT.out.next hb)
        replace HS := Lib.hid (HS.out.next hb)
        replace BB := Lib.hid (Below.andThen BB.out hb)
        clear hb
        go_wp2_with fail
        all_goals
          go_ret
          refine ⟨retv (vint ?_), BB.out⟩
          rw [HD.out]
          first | (rw [if_pos (by omega)]; done) | (rw [if_neg (by omega)]; done) | (rw [if_neg (by omega)]; omega)
    · obtain rfl : i = 0 := by omega
      by_cases h1 : 0 + 1 < n
      · have b2 := esSmall_le (l.drop (0 + 1))
        have hcc : ¬ (c : Int) = 1 := by omega
        have CR := Lib.hid (fun W (T : Tab W) (H : Ws W (some ⟨b, off, none⟩) n c l) => spanishSmall_ws _ (n - (0 + 1)) (c - (0 + 1)) (l.drop (0 + 1)) W T (H.drop h1))
        replace HD := Lib.hid (HD.out.trans (show _ = if A < 0 ∨ esSmall (l.drop (0 + 1)) < 0 then -1 else 1000 * A + esSmall (l.drop (0 + 1)) from by simp only [gt_iff_lt, if_neg h0, if_pos h1]))
        generalize esSmall (l.drop (0 + 1)) = r at *
        clear h
        go_enter Tryd.func64, Tryd.ntmps64
        go_wp2_with fail
        with_reducible refine Calls.mono CX.out ?_
        rintro e w' ⟨rfl, rfl⟩
        go_wp2_with fail
        with_reducible refine Calls.mono (CR.out _ HT.out HS.out) ?_
        rintro e w3 ⟨rfl, hb⟩
        replace HT := Lib.hid (HT.out.next hb)
        replace HS := Lib.hid (HS.out.next hb)
        replace BB := Lib.hid (Below.andThen BB.out hb)
        clear hb
        go_wp2_with fail
        all_goals
          go_ret
          refine ⟨retv (vint ?_), BB.out⟩
          rw [HD.out]
          first | (rw [if_pos (by omega)]; done) | (rw [if_neg (by omega)]; done) | (rw [if_neg (by omega)]; omega)
      · replace HD := Lib.hid (HD.out.trans (show _ = if A < 0 ∨ (0 : Int) < 0 then -1 else 1000 * A + 0 from by simp only [gt_iff_lt, if_neg h0, if_neg h1]))
        clear h
        go_enter Tryd.func64, Tryd.ntmps64
        go_wp2_with fail
        with_reducible refine Calls.mono CX.out ?_
        rintro e w' ⟨rfl, rfl⟩
        go_wp2_with fail
        all_goals
          go_ret
          refine ⟨retv (vint ?_), BB.out⟩
          rw [HD.out]
          first | (rw [if_pos (by omega)]; done) | (rw [if_neg (by omega)]; done) | (rw [if_neg (by omega)]; omega)
end Wo
end Go.Proofs.YtebdpdmkehfgfaaDoor
