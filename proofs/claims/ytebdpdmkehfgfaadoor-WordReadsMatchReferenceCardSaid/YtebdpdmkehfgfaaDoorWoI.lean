/- The guesses of the three tongues. -/
import Derived.Test.YtebdpdmkehfgfaaDoorWoH
set_option linter.unusedVariables false
set_option linter.unusedSimpArgs false
namespace Go.Proofs.YtebdpdmkehfgfaaDoor
open Go.RowKit
theorem calls_named {P : Program} {f : FuncId} {args : Array Value} {w : World} {Q : Ending → World → Prop} (h : ∀ W, W = w → Calls P f args W Q) : Calls P f args w Q := h w rfl
namespace Wo
theorem ws_new (w : World) (t : TypeId) (l : List B) {n : Nat} (hl : l.length = n) (h0 : l ≠ []) (hn : n ≤ 1000000) (hs : ∀ s ∈ l, s.length ≤ 1000000) : Ws (w.alloc (.cells (l.map sV).toArray t)) (some ⟨w.heap.size, 0, none⟩) n n l :=
  ⟨ssl_new w t l, hl, h0, hn, Nat.le_refl _, by omega, hs⟩
theorem cutSuffix_len {p s q : B} (h : cutSuffix p s = some q) : q.length + p.length = s.length := by
  unfold cutSuffix at h
  split at h
  · rename_i hp
    cases h
    have := (List.isSuffixOf_iff_suffix.1 hp).length_le
    rw [List.length_take]
    omega
  · cases h
def thou (q r : Int) : Int := if q < 0 ∨ r < 0 then -1 else 1000 * q + r
theorem germanSmall_ws (o : Option Addr) (n c : Nat) (l : List B) (w : World) (T : Tab w) (h : Ws w o n c l) : Calls Tryd.prog 70 #[.slice o n c] w fun e w' => e = .returned (.int .i64 (deSmall l)) ∧ Below w.heap.size w w' :=
  germanSmall_any o n c l w T h.len h.nle h.small h.sl
set_option maxRecDepth 100000 in
set_option maxHeartbeats 2000000 in
theorem germanGuess_any (o : Option Addr) (n c : Nat) (l : List B) (w : World) (T : Tab w) (h : Ws w o n c l) :
    Calls Tryd.prog 57 #[.slice o n c] w fun e w' => e = .returned (.int .i64 (deGuess l)) ∧ Below w.heap.size w w' := by
  have HT := Lib.hid T
  have BB := Lib.hid (Below.refl w.heap.size w)
  have HS := Lib.hid h
  have hnc := h.cap
  have hc2 := h.big
  have hn := h.nle
  have hl := h.len
  obtain ⟨b, off, rfl, hb, hc⟩ := h.sl.cells h.ne
  obtain ⟨s, rest, rfl⟩ : ∃ s rest, l = s :: rest := by
    cases l with
    | nil => exact absurd rfl h.ne
    | cons a r => exact ⟨a, r, rfl⟩
  have c0 := hc 0 s rfl
  rw [Nat.add_zero] at c0
  have HZ := Lib.hid (h.small s (by simp))
  have n0 : 0 < n := by rw [← hl]; simp
  have HD := Lib.hid (show deGuess (s :: rest) = match cutSuffix tausend s with
    | none => deSmall (s :: rest)
    | some q => if (if ein.isSuffixOf q then deSmall [q ++ [115]] else deSmall [q]) < 0 ∨ (if (s :: rest).length > 1 then deSmall ((s :: rest).drop 1) else 0) < 0 then -1 else 1000 * (if ein.isSuffixOf q then deSmall [q ++ [115]] else deSmall [q]) + (if (s :: rest).length > 1 then deSmall ((s :: rest).drop 1) else 0) from rfl)
  rw [hl] at HD
  generalize deGuess (s :: rest) = D at *
  clear hc T
  cases hcs : cutSuffix tausend s with
  | none =>
    rw [hcs] at HD
    replace HD := Lib.hid (HD.out.trans (show _ = deSmall (s :: rest) from rfl))
    have CX := Lib.hid (CutSuffix_none hcs ⟨#[116, 97, 117, 115, 101, 110, 100]⟩ rfl w HZ.out)
    clear hcs hl h
    go_enter Tryd.func57, Tryd.ntmps57
    go_wp2_with fail
    with_reducible refine Calls.mono CX.out ?_
    rintro e w' ⟨rfl, rfl⟩
    go_wp2_with fail
    with_reducible refine Calls.mono (germanSmall_ws _ n c _ _ HT.out HS.out) ?_
    rintro e w2 ⟨rfl, hb⟩
    replace HT := Lib.hid (HT.out.next hb)
    replace HS := Lib.hid (HS.out.next hb)
    replace BB := Lib.hid (Below.andThen BB.out hb)
    clear hb
    go_wp2_with fail
    go_ret
    exact ⟨retv (vint HD.out.symm), BB.out⟩
  | some q =>
    rw [hcs] at HD
    replace HD := Lib.hid (HD.out.trans (show _ = thou (if ein.isSuffixOf q then deSmall [q ++ [115]] else deSmall [q]) (if n > 1 then deSmall ((s :: rest).drop 1) else 0) from rfl))
    have HQ := Lib.hid (show q.length + 1 ≤ 1000000 by
      have := cutSuffix_len hcs
      have := HZ.out
      have : tausend.length = 7 := rfl
      omega)
    have zq : (bs q).size ≤ 1000000 := by rw [bs_size]; have := HQ.out; omega
    have CX := Lib.hid (CutSuffix_some hcs ⟨#[116, 97, 117, 115, 101, 110, 100]⟩ rfl w HZ.out)
    have CH := Lib.hid (fun W => HasSuffix_any q ein ⟨#[101, 105, 110]⟩ rfl W (by have := HQ.out; omega))
    have b1 := deSmall_le [q]
    have b2 := deSmall_le [q ++ [115]]
    have b3 := deSmall_le ((s :: rest).drop 1)
    have C1 := Lib.hid (fun W o (T : Tab W) (H : Ws W o 1 1 [q]) => germanSmall_ws o 1 1 [q] W T H)
    have C2 := Lib.hid (fun W o (T : Tab W) (H : Ws W o 1 1 [q ++ [115]]) => germanSmall_ws o 1 1 [q ++ [115]] W T H)
    have C3 := Lib.hid (fun W (T : Tab W) (hi : 1 < n) (H : Ws W (some ⟨b, off, none⟩) n c (s :: rest)) => germanSmall_ws _ (n - 1) (c - 1) _ W T (H.drop hi))
    generalize deSmall [q] = m1 at *
    generalize deSmall [q ++ [115]] = m2 at *
    generalize deSmall ((s :: rest).drop 1) = m3 at *
    clear hcs hl h
    have HC := Lib.hid (show ¬ (c : Int) = 1 ∨ ¬ 1 < n by omega)
    cases hsu : ein.isSuffixOf q with
    | true =>
      rw [hsu] at CH HD
      clear hsu
      by_cases h1 : 1 < n
      · have hcc : ¬ (c : Int) = 1 := by omega
        replace HD := Lib.hid (HD.out.trans (show _ = thou m2 m3 from by simp only [gt_iff_lt, if_pos h1]; rfl))
        go_enter Tryd.func57, Tryd.ntmps57
        go_wp2_with fail
        with_reducible refine Calls.mono CX.out ?_
        rintro e w' ⟨rfl, rfl⟩
        go_wp2_with fail
        refine calls_named fun v1 hq => ?_
        obtain ⟨b1', ebb1'⟩ : ∃ b, b = w.heap.size := ⟨_, rfl⟩
        have R1 := Lib.hid (show Ws v1 (some ⟨b1', 0, none⟩) 1 1 [q] from by rw [hq, ebb1']; exact ws_new _ _ [q] rfl (by simp) (by decide) (by have := HQ.out; simp; omega))
        have hb : Below w.heap.size w v1 := by rw [hq]; exact (Below.refl _ _).alloc (Nat.le_refl _) _
        replace HT := Lib.hid (HT.out.next hb)
        replace HS := Lib.hid (HS.out.next hb)
        replace BB := Lib.hid (Below.andThen BB.out hb)
        rw [← ebb1']
        clear hq hb ebb1'
        with_reducible refine Calls.mono (C1.out _ _ HT.out R1.out) ?_
        rintro e w2 ⟨rfl, hb⟩
        replace HT := Lib.hid (HT.out.next hb)
        replace HS := Lib.hid (HS.out.next hb)
        replace BB := Lib.hid (Below.andThen BB.out hb)
        clear hb
        go_wp2_with fail
        with_reducible refine Calls.mono (CH.out _) ?_
        rintro e w' ⟨rfl, rfl⟩
        go_wp2_with fail
        rw [show (bs q ++ (⟨#[115]⟩ : ByteArray)) = bs (q ++ [115]) from bs_append q [115]]
        refine calls_named fun v2 hq => ?_
        obtain ⟨b2', ebb2'⟩ : ∃ b, b = w2.heap.size := ⟨_, rfl⟩
        have R2 := Lib.hid (show Ws v2 (some ⟨b2', 0, none⟩) 1 1 [q ++ [115]] from by rw [hq, ebb2']; exact ws_new _ _ [q ++ [115]] rfl (by simp) (by decide) (by have := HQ.out; simp; omega))
        have hb : Below w2.heap.size w2 v2 := by rw [hq]; exact (Below.refl _ _).alloc (Nat.le_refl _) _
        replace HT := Lib.hid (HT.out.next hb)
        replace HS := Lib.hid (HS.out.next hb)
        replace BB := Lib.hid (Below.andThen BB.out hb)
        rw [← ebb2']
        clear hq hb ebb2'
        with_reducible refine Calls.mono (C2.out _ _ HT.out R2.out) ?_
        rintro e w3 ⟨rfl, hb⟩
        replace HT := Lib.hid (HT.out.next hb)
        replace HS := Lib.hid (HS.out.next hb)
        replace BB := Lib.hid (Below.andThen BB.out hb)
        clear hb
        go_wp2_with fail
        with_reducible refine Calls.mono (C3.out _ HT.out h1 HS.out) ?_
        rintro e w4 ⟨rfl, hb⟩
        replace HT := Lib.hid (HT.out.next hb)
        replace HS := Lib.hid (HS.out.next hb)
        replace BB := Lib.hid (Below.andThen BB.out hb)
        clear hb
        go_wp2_with fail
        all_goals
          go_ret
          refine ⟨retv (vint ?_), BB.out⟩
          rw [HD.out]
          unfold thou
          first | (rw [if_pos (by omega)]; done) | (rw [if_neg (by omega)]; done) | (rw [if_neg (by omega)]; omega)
      · replace HD := Lib.hid (HD.out.trans (show _ = thou m2 0 from by simp only [gt_iff_lt, if_neg h1]; rfl))
        have h2 : n = 1 := by omega
        go_enter Tryd.func57, Tryd.ntmps57
        go_wp2_with fail
        with_reducible refine Calls.mono CX.out ?_
        rintro e w' ⟨rfl, rfl⟩
        go_wp2_with fail
        refine calls_named fun v1 hq => ?_
        obtain ⟨b1', ebb1'⟩ : ∃ b, b = w.heap.size := ⟨_, rfl⟩
        have R1 := Lib.hid (show Ws v1 (some ⟨b1', 0, none⟩) 1 1 [q] from by rw [hq, ebb1']; exact ws_new _ _ [q] rfl (by simp) (by decide) (by have := HQ.out; simp; omega))
        have hb : Below w.heap.size w v1 := by rw [hq]; exact (Below.refl _ _).alloc (Nat.le_refl _) _
        replace HT := Lib.hid (HT.out.next hb)
        replace HS := Lib.hid (HS.out.next hb)
        replace BB := Lib.hid (Below.andThen BB.out hb)
        rw [← ebb1']
        clear hq hb ebb1'
        with_reducible refine Calls.mono (C1.out _ _ HT.out R1.out) ?_
        rintro e w2 ⟨rfl, hb⟩
        replace HT := Lib.hid (HT.out.next hb)
        replace HS := Lib.hid (HS.out.next hb)
        replace BB := Lib.hid (Below.andThen BB.out hb)
        clear hb
        go_wp2_with fail
        with_reducible refine Calls.mono (CH.out _) ?_
        rintro e w' ⟨rfl, rfl⟩
        go_wp2_with fail
        rw [show (bs q ++ (⟨#[115]⟩ : ByteArray)) = bs (q ++ [115]) from bs_append q [115]]
        refine calls_named fun v2 hq => ?_
        obtain ⟨b2', ebb2'⟩ : ∃ b, b = w2.heap.size := ⟨_, rfl⟩
        have R2 := Lib.hid (show Ws v2 (some ⟨b2', 0, none⟩) 1 1 [q ++ [115]] from by rw [hq, ebb2']; exact ws_new _ _ [q ++ [115]] rfl (by simp) (by decide) (by have := HQ.out; simp; omega))
        have hb : Below w2.heap.size w2 v2 := by rw [hq]; exact (Below.refl _ _).alloc (Nat.le_refl _) _
        replace HT := Lib.hid (HT.out.next hb)
        replace HS := Lib.hid (HS.out.next hb)
        replace BB := Lib.hid (Below.andThen BB.out hb)
        rw [← ebb2']
        clear hq hb ebb2'
        with_reducible refine Calls.mono (C2.out _ _ HT.out R2.out) ?_
        rintro e w3 ⟨rfl, hb⟩
        replace HT := Lib.hid (HT.out.next hb)
        replace HS := Lib.hid (HS.out.next hb)
        replace BB := Lib.hid (Below.andThen BB.out hb)
        clear hb
        go_wp2_with fail
        all_goals
          go_ret
          refine ⟨retv (vint ?_), BB.out⟩
          rw [HD.out]
          unfold thou
          first | (rw [if_pos (by omega)]; done) | (rw [if_neg (by omega)]; done) | (rw [if_neg (by omega)]; omega)
    | false =>
      rw [hsu] at CH HD
      clear hsu
      by_cases h1 : 1 < n
      · have hcc : ¬ (c : Int) = 1 := by omega
        replace HD := Lib.hid (HD.out.trans (show _ = thou m1 m3 from by simp only [gt_iff_lt, if_pos h1]; rfl))
        go_enter Tryd.func57, Tryd.ntmps57
        go_wp2_with fail
        with_reducible refine Calls.mono CX.out ?_
        rintro e w' ⟨rfl, rfl⟩
        go_wp2_with fail
        refine calls_named fun v1 hq => ?_
        obtain ⟨b1', ebb1'⟩ : ∃ b, b = w.heap.size := ⟨_, rfl⟩
        have R1 := Lib.hid (show Ws v1 (some ⟨b1', 0, none⟩) 1 1 [q] from by rw [hq, ebb1']; exact ws_new _ _ [q] rfl (by simp) (by decide) (by have := HQ.out; simp; omega))
        have hb : Below w.heap.size w v1 := by rw [hq]; exact (Below.refl _ _).alloc (Nat.le_refl _) _
        replace HT := Lib.hid (HT.out.next hb)
        replace HS := Lib.hid (HS.out.next hb)
        replace BB := Lib.hid (Below.andThen BB.out hb)
        rw [← ebb1']
        clear hq hb ebb1'
        with_reducible refine Calls.mono (C1.out _ _ HT.out R1.out) ?_
        rintro e w2 ⟨rfl, hb⟩
        replace HT := Lib.hid (HT.out.next hb)
        replace HS := Lib.hid (HS.out.next hb)
        replace BB := Lib.hid (Below.andThen BB.out hb)
        clear hb
        go_wp2_with fail
        with_reducible refine Calls.mono (CH.out _) ?_
        rintro e w' ⟨rfl, rfl⟩
        go_wp2_with fail
        with_reducible refine Calls.mono (C3.out _ HT.out h1 HS.out) ?_
        rintro e w4 ⟨rfl, hb⟩
        replace HT := Lib.hid (HT.out.next hb)
        replace HS := Lib.hid (HS.out.next hb)
        replace BB := Lib.hid (Below.andThen BB.out hb)
        clear hb
        go_wp2_with fail
        all_goals
          go_ret
          refine ⟨retv (vint ?_), BB.out⟩
          rw [HD.out]
          unfold thou
          first | (rw [if_pos (by omega)]; done) | (rw [if_neg (by omega)]; done) | (rw [if_neg (by omega)]; omega)
      · replace HD := Lib.hid (HD.out.trans (show _ = thou m1 0 from by simp only [gt_iff_lt, if_neg h1]; rfl))
        have h2 : n = 1 := by omega
        go_enter Tryd.func57, Tryd.ntmps57
        go_wp2_with fail
        with_reducible refine Calls.mono CX.out ?_
        rintro e w' ⟨rfl, rfl⟩
        go_wp2_with fail
        refine calls_named fun v1 hq => ?_
        obtain ⟨b1', ebb1'⟩ : ∃ b, b = w.heap.size := ⟨_, rfl⟩
        have R1 := Lib.hid (show Ws v1 (some ⟨b1', 0, none⟩) 1 1 [q] from by rw [hq, ebb1']; exact ws_new _ _ [q] rfl (by simp) (by decide) (by have := HQ.out; simp; omega))
        have hb : Below w.heap.size w v1 := by rw [hq]; exact (Below.refl _ _).alloc (Nat.le_refl _) _
        replace HT := Lib.hid (HT.out.next hb)
        replace HS := Lib.hid (HS.out.next hb)
        replace BB := Lib.hid (Below.andThen BB.out hb)
        rw [← ebb1']
        clear hq hb ebb1'
        with_reducible refine Calls.mono (C1.out _ _ HT.out R1.out) ?_
        rintro e w2 ⟨rfl, hb⟩
        replace HT := Lib.hid (HT.out.next hb)
        replace HS := Lib.hid (HS.out.next hb)
        replace BB := Lib.hid (Below.andThen BB.out hb)
        clear hb
        go_wp2_with fail
        with_reducible refine Calls.mono (CH.out _) ?_
        rintro e w' ⟨rfl, rfl⟩
        go_wp2_with fail
        all_goals
          go_ret
          refine ⟨retv (vint ?_), BB.out⟩
          rw [HD.out]
          unfold thou
          first | (rw [if_pos (by omega)]; done) | (rw [if_neg (by omega)]; done) | (rw [if_neg (by omega)]; omega)
theorem englishGuess_any (o : Option Addr) (n c : Nat) (l : List B) (w : World) (T : Tab w) (h : Ws w o n c l) :
    Calls Tryd.prog 54 #[.slice o n c] w fun e w' => e = .returned (.int .i64 (read 0 l)) ∧ Below w.heap.size w w' := by
  have C := Lib.hid (guess_englishSmall o n c l (-1) (by decide) ⟨#[116, 104, 111, 117, 115, 97, 110, 100]⟩ rfl w T h)
  clear T h
  go_enter Tryd.func54, Tryd.ntmps54
  go_wp2_with fail
  with_reducible refine Calls.mono C.out ?_
  rintro e w2 ⟨rfl, hb⟩
  have HB := Lib.hid hb
  clear hb
  go_wp2_with fail
  go_ret
  exact ⟨rfl, HB.out⟩
theorem spanishGuess_any (o : Option Addr) (n c : Nat) (l : List B) (w : World) (T : Tab w) (h : Ws w o n c l) :
    Calls Tryd.prog 60 #[.slice o n c] w fun e w' => e = .returned (.int .i64 (read 2 l)) ∧ Below w.heap.size w w' := by
  have C := Lib.hid (guess_spanishSmall o n c l (1) (by decide) ⟨#[109, 105, 108]⟩ rfl w T h)
  clear T h
  go_enter Tryd.func60, Tryd.ntmps60
  go_wp2_with fail
  with_reducible refine Calls.mono C.out ?_
  rintro e w2 ⟨rfl, hb⟩
  have HB := Lib.hid hb
  clear hb
  go_wp2_with fail
  go_ret
  exact ⟨rfl, HB.out⟩
end Wo
end Go.Proofs.YtebdpdmkehfgfaaDoor
