/- is, tongue by tongue; Words, Number, Is. -/
import Derived.Test.YtebdpdmkehfgfaaDoorWoO
set_option linter.unusedVariables false
set_option linter.unusedSimpArgs false
namespace Go.Proofs.YtebdpdmkehfgfaaDoor
open Go.RowKit
namespace Wo
set_option maxRecDepth 100000 in
set_option maxHeartbeats 2000000 in
theorem is0 (s : B) (hs : s.length ≤ 1000000) (w : World) (T : Tab w) :
    Calls Tryd.prog 43 #[.agg #[fnV 53, fnV 54, fnV 55], .string (bs s)] w fun e w' => e = .returned (.bool (isW 0 s)) ∧ Below w.heap.size w w' := by
  have HT := Lib.hid T
  have BB := Lib.hid (Below.refl w.heap.size w)
  have HZ := Lib.hid hs
  have CN := Lib.hid (fun W (T : Tab W) o (H : Ws W o 1 1 [s]) => number0 o 1 1 [s] W T rfl (by decide) (by decide) (by decide) H.small H.sl)
  have CP := Lib.hid (fun W => part0_any s W)
  have HE := Lib.hid (show isW 0 s = ((number 0 [s]).isSome || part 0 s) from rfl)
  generalize isW 0 s = R at *
  generalize part 0 s = Q at *
  clear T hs
  cases hn : number 0 [s] with
  | some m =>
    rw [hn] at CN HE
    clear hn
    go_enter Tryd.func43, Tryd.ntmps43
    go_upto_region 1 with (fail)
    refine wp_named fun v1 hq => ?_
    obtain ⟨bR, ebR⟩ : ∃ b, b = w.heap.size := ⟨_, rfl⟩
    have HR := Lib.hid (show Row v1 bR 55 [_, _, _] from by rw [hq, ebR]; exact Row.new _ _ _)
    have hb : Below w.heap.size w v1 := by rw [hq]; exact (Below.refl _ _).alloc (Nat.le_refl _) _
    replace HT := Lib.hid (HT.out.next hb)
    replace BB := Lib.hid (Below.andThen BB.out hb)
    rw [← ebR]
    clear hq hb ebR
    obtain ⟨q0, q1, q2⟩ := HR.out.three
    have lr := HR.out.lt
    go_wp2_with fail
    refine calls_named fun v2 hq => ?_
    obtain ⟨b1, ebb1⟩ : ∃ b, b = v1.heap.size := ⟨_, rfl⟩
    have R1 := Lib.hid (show Ws v2 (some ⟨b1, 0, none⟩) 1 1 [s] from by rw [hq, ebb1]; exact ws_new _ _ [s] rfl (by simp) (by decide) (by have := HZ.out; simp; omega))
    have hb : Below v1.heap.size v1 v2 := by rw [hq]; exact (Below.refl _ _).alloc (Nat.le_refl _) _
    replace HT := Lib.hid (HT.out.next hb)
    replace HR := Lib.hid (HR.out.next hb)
    replace BB := Lib.hid (Below.andThen BB.out hb)
    rw [← ebb1]
    clear hq hb ebb1
    with_reducible refine Calls.mono (CN.out _ HT.out _ R1.out) ?_
    rintro e w2 ⟨rfl, hb⟩
    replace BB := Lib.hid (Below.andThen BB.out hb)
    clear hb
    unfold numV
    go_wp2_with fail
    go_ret
    exact ⟨by rw [HE.out]; rfl, BB.out⟩
  | none =>
    rw [hn] at CN HE
    clear hn
    go_enter Tryd.func43, Tryd.ntmps43
    go_upto_region 1 with (fail)
    refine wp_named fun v1 hq => ?_
    obtain ⟨bR, ebR⟩ : ∃ b, b = w.heap.size := ⟨_, rfl⟩
    have HR := Lib.hid (show Row v1 bR 55 [_, _, _] from by rw [hq, ebR]; exact Row.new _ _ _)
    have hb : Below w.heap.size w v1 := by rw [hq]; exact (Below.refl _ _).alloc (Nat.le_refl _) _
    replace HT := Lib.hid (HT.out.next hb)
    replace BB := Lib.hid (Below.andThen BB.out hb)
    rw [← ebR]
    clear hq hb ebR
    obtain ⟨q0, q1, q2⟩ := HR.out.three
    have lr := HR.out.lt
    go_wp2_with fail
    refine calls_named fun v2 hq => ?_
    obtain ⟨b1, ebb1⟩ : ∃ b, b = v1.heap.size := ⟨_, rfl⟩
    have R1 := Lib.hid (show Ws v2 (some ⟨b1, 0, none⟩) 1 1 [s] from by rw [hq, ebb1]; exact ws_new _ _ [s] rfl (by simp) (by decide) (by have := HZ.out; simp; omega))
    have hb : Below v1.heap.size v1 v2 := by rw [hq]; exact (Below.refl _ _).alloc (Nat.le_refl _) _
    replace HT := Lib.hid (HT.out.next hb)
    replace HR := Lib.hid (HR.out.next hb)
    replace BB := Lib.hid (Below.andThen BB.out hb)
    rw [← ebb1]
    clear hq hb ebb1
    with_reducible refine Calls.mono (CN.out _ HT.out _ R1.out) ?_
    rintro e w2 ⟨rfl, hb⟩
    replace BB := Lib.hid (Below.andThen BB.out hb)
    replace HR := Lib.hid (HR.out.next hb)
    clear hb q0 q1 q2 lr
    obtain ⟨q0, q1, q2⟩ := HR.out.three
    have lr := HR.out.lt
    unfold numV
    go_wp2_with fail
    with_reducible refine Calls.mono (CP.out _) ?_
    rintro e w' ⟨rfl, rfl⟩
    go_wp2_with fail
    go_ret
    exact ⟨by rw [HE.out]; rfl, BB.out⟩
set_option maxRecDepth 100000 in
set_option maxHeartbeats 2000000 in
theorem is1 (s : B) (hs : s.length ≤ 1000000) (w : World) (T : Tab w) :
    Calls Tryd.prog 43 #[.agg #[fnV 56, fnV 57, fnV 58], .string (bs s)] w fun e w' => e = .returned (.bool (isW 1 s)) ∧ Below w.heap.size w w' := by
  have HT := Lib.hid T
  have BB := Lib.hid (Below.refl w.heap.size w)
  have HZ := Lib.hid hs
  have CN := Lib.hid (fun W (T : Tab W) o (H : Ws W o 1 1 [s]) => number1 o 1 1 [s] W T rfl (by decide) (by decide) (by decide) H.small H.sl)
  have CP := Lib.hid (fun W => part1_any s W)
  have HE := Lib.hid (show isW 1 s = ((number 1 [s]).isSome || part 1 s) from rfl)
  generalize isW 1 s = R at *
  generalize part 1 s = Q at *
  clear T hs
  cases hn : number 1 [s] with
  | some m =>
    rw [hn] at CN HE
    clear hn
    go_enter Tryd.func43, Tryd.ntmps43
    go_upto_region 1 with (fail)
    refine wp_named fun v1 hq => ?_
    obtain ⟨bR, ebR⟩ : ∃ b, b = w.heap.size := ⟨_, rfl⟩
    have HR := Lib.hid (show Row v1 bR 55 [_, _, _] from by rw [hq, ebR]; exact Row.new _ _ _)
    have hb : Below w.heap.size w v1 := by rw [hq]; exact (Below.refl _ _).alloc (Nat.le_refl _) _
    replace HT := Lib.hid (HT.out.next hb)
    replace BB := Lib.hid (Below.andThen BB.out hb)
    rw [← ebR]
    clear hq hb ebR
    obtain ⟨q0, q1, q2⟩ := HR.out.three
    have lr := HR.out.lt
    go_wp2_with fail
    refine calls_named fun v2 hq => ?_
    obtain ⟨b1, ebb1⟩ : ∃ b, b = v1.heap.size := ⟨_, rfl⟩
    have R1 := Lib.hid (show Ws v2 (some ⟨b1, 0, none⟩) 1 1 [s] from by rw [hq, ebb1]; exact ws_new _ _ [s] rfl (by simp) (by decide) (by have := HZ.out; simp; omega))
    have hb : Below v1.heap.size v1 v2 := by rw [hq]; exact (Below.refl _ _).alloc (Nat.le_refl _) _
    replace HT := Lib.hid (HT.out.next hb)
    replace HR := Lib.hid (HR.out.next hb)
    replace BB := Lib.hid (Below.andThen BB.out hb)
    rw [← ebb1]
    clear hq hb ebb1
    with_reducible refine Calls.mono (CN.out _ HT.out _ R1.out) ?_
    rintro e w2 ⟨rfl, hb⟩
    replace BB := Lib.hid (Below.andThen BB.out hb)
    clear hb
    unfold numV
    go_wp2_with fail
    go_ret
    exact ⟨by rw [HE.out]; rfl, BB.out⟩
  | none =>
    rw [hn] at CN HE
    clear hn
    go_enter Tryd.func43, Tryd.ntmps43
    go_upto_region 1 with (fail)
    refine wp_named fun v1 hq => ?_
    obtain ⟨bR, ebR⟩ : ∃ b, b = w.heap.size := ⟨_, rfl⟩
    have HR := Lib.hid (show Row v1 bR 55 [_, _, _] from by rw [hq, ebR]; exact Row.new _ _ _)
    have hb : Below w.heap.size w v1 := by rw [hq]; exact (Below.refl _ _).alloc (Nat.le_refl _) _
    replace HT := Lib.hid (HT.out.next hb)
    replace BB := Lib.hid (Below.andThen BB.out hb)
    rw [← ebR]
    clear hq hb ebR
    obtain ⟨q0, q1, q2⟩ := HR.out.three
    have lr := HR.out.lt
    go_wp2_with fail
    refine calls_named fun v2 hq => ?_
    obtain ⟨b1, ebb1⟩ : ∃ b, b = v1.heap.size := ⟨_, rfl⟩
    have R1 := Lib.hid (show Ws v2 (some ⟨b1, 0, none⟩) 1 1 [s] from by rw [hq, ebb1]; exact ws_new _ _ [s] rfl (by simp) (by decide) (by have := HZ.out; simp; omega))
    have hb : Below v1.heap.size v1 v2 := by rw [hq]; exact (Below.refl _ _).alloc (Nat.le_refl _) _
    replace HT := Lib.hid (HT.out.next hb)
    replace HR := Lib.hid (HR.out.next hb)
    replace BB := Lib.hid (Below.andThen BB.out hb)
    rw [← ebb1]
    clear hq hb ebb1
    with_reducible refine Calls.mono (CN.out _ HT.out _ R1.out) ?_
    rintro e w2 ⟨rfl, hb⟩
    replace BB := Lib.hid (Below.andThen BB.out hb)
    replace HR := Lib.hid (HR.out.next hb)
    clear hb q0 q1 q2 lr
    obtain ⟨q0, q1, q2⟩ := HR.out.three
    have lr := HR.out.lt
    unfold numV
    go_wp2_with fail
    with_reducible refine Calls.mono (CP.out _) ?_
    rintro e w' ⟨rfl, rfl⟩
    go_wp2_with fail
    go_ret
    exact ⟨by rw [HE.out]; rfl, BB.out⟩
set_option maxRecDepth 100000 in
set_option maxHeartbeats 2000000 in
theorem is2 (s : B) (hs : s.length ≤ 1000000) (w : World) (T : Tab w) :
    Calls Tryd.prog 43 #[.agg #[fnV 59, fnV 60, fnV 61], .string (bs s)] w fun e w' => e = .returned (.bool (isW 2 s)) ∧ Below w.heap.size w w' := by
  have HT := Lib.hid T
  have BB := Lib.hid (Below.refl w.heap.size w)
  have HZ := Lib.hid hs
  have CN := Lib.hid (fun W (T : Tab W) o (H : Ws W o 1 1 [s]) => number2 o 1 1 [s] W T rfl (by decide) (by decide) (by decide) H.small H.sl)
  have CP := Lib.hid (fun W => part2_any s W)
  have HE := Lib.hid (show isW 2 s = ((number 2 [s]).isSome || part 2 s) from rfl)
  generalize isW 2 s = R at *
  generalize part 2 s = Q at *
  clear T hs
  cases hn : number 2 [s] with
  | some m =>
    rw [hn] at CN HE
    clear hn
    go_enter Tryd.func43, Tryd.ntmps43
    go_upto_region 1 with (fail)
    refine wp_named fun v1 hq => ?_
    obtain ⟨bR, ebR⟩ : ∃ b, b = w.heap.size := ⟨_, rfl⟩
    have HR := Lib.hid (show Row v1 bR 55 [_, _, _] from by rw [hq, ebR]; exact Row.new _ _ _)
    have hb : Below w.heap.size w v1 := by rw [hq]; exact (Below.refl _ _).alloc (Nat.le_refl _) _
    replace HT := Lib.hid (HT.out.next hb)
    replace BB := Lib.hid (Below.andThen BB.out hb)
    rw [← ebR]
    clear hq hb ebR
    obtain ⟨q0, q1, q2⟩ := HR.out.three
    have lr := HR.out.lt
    go_wp2_with fail
    refine calls_named fun v2 hq => ?_
    obtain ⟨b1, ebb1⟩ : ∃ b, b = v1.heap.size := ⟨_, rfl⟩
    have R1 := Lib.hid (show Ws v2 (some ⟨b1, 0, none⟩) 1 1 [s] from by rw [hq, ebb1]; exact ws_new _ _ [s] rfl (by simp) (by decide) (by have := HZ.out; simp; omega))
    have hb : Below v1.heap.size v1 v2 := by rw [hq]; exact (Below.refl _ _).alloc (Nat.le_refl _) _
    replace HT := Lib.hid (HT.out.next hb)
    replace HR := Lib.hid (HR.out.next hb)
    replace BB := Lib.hid (Below.andThen BB.out hb)
    rw [← ebb1]
    clear hq hb ebb1
    with_reducible refine Calls.mono (CN.out _ HT.out _ R1.out) ?_
    rintro e w2 ⟨rfl, hb⟩
    replace BB := Lib.hid (Below.andThen BB.out hb)
    clear hb
    unfold numV
    go_wp2_with fail
    go_ret
    exact ⟨by rw [HE.out]; rfl, BB.out⟩
  | none =>
    rw [hn] at CN HE
    clear hn
    go_enter Tryd.func43, Tryd.ntmps43
    go_upto_region 1 with (fail)
    refine wp_named fun v1 hq => ?_
    obtain ⟨bR, ebR⟩ : ∃ b, b = w.heap.size := ⟨_, rfl⟩
    have HR := Lib.hid (show Row v1 bR 55 [_, _, _] from by rw [hq, ebR]; exact Row.new _ _ _)
    have hb : Below w.heap.size w v1 := by rw [hq]; exact (Below.refl _ _).alloc (Nat.le_refl _) _
    replace HT := Lib.hid (HT.out.next hb)
    replace BB := Lib.hid (Below.andThen BB.out hb)
    rw [← ebR]
    clear hq hb ebR
    obtain ⟨q0, q1, q2⟩ := HR.out.three
    have lr := HR.out.lt
    go_wp2_with fail
    refine calls_named fun v2 hq => ?_
    obtain ⟨b1, ebb1⟩ : ∃ b, b = v1.heap.size := ⟨_, rfl⟩
    have R1 := Lib.hid (show Ws v2 (some ⟨b1, 0, none⟩) 1 1 [s] from by rw [hq, ebb1]; exact ws_new _ _ [s] rfl (by simp) (by decide) (by have := HZ.out; simp; omega))
    have hb : Below v1.heap.size v1 v2 := by rw [hq]; exact (Below.refl _ _).alloc (Nat.le_refl _) _
    replace HT := Lib.hid (HT.out.next hb)
    replace HR := Lib.hid (HR.out.next hb)
    replace BB := Lib.hid (Below.andThen BB.out hb)
    rw [← ebb1]
    clear hq hb ebb1
    with_reducible refine Calls.mono (CN.out _ HT.out _ R1.out) ?_
    rintro e w2 ⟨rfl, hb⟩
    replace BB := Lib.hid (Below.andThen BB.out hb)
    replace HR := Lib.hid (HR.out.next hb)
    clear hb q0 q1 q2 lr
    obtain ⟨q0, q1, q2⟩ := HR.out.three
    have lr := HR.out.lt
    unfold numV
    go_wp2_with fail
    with_reducible refine Calls.mono (CP.out _) ?_
    rintro e w' ⟨rfl, rfl⟩
    go_wp2_with fail
    go_ret
    exact ⟨by rw [HE.out]; rfl, BB.out⟩
theorem number_any (k : Nat) (hk : k < 3) (o : Option Addr) (n c : Nat) (l : List B) (w : World) (T : Tab w) (hl : l.length = n) (hn : n ≤ 1000000) (hnc : n ≤ c) (hc2 : c ≤ 9223372036854775807) (hs : ∀ s ∈ l, s.length ≤ 1000000) (hS : SSl w o l) :
    Calls Tryd.prog 44 #[tongV k, .slice o n c] w fun e w' => e = .returned (numV (number k l)) ∧ Below w.heap.size w w' := by
  rcases (show k = 0 ∨ k = 1 ∨ k = 2 by omega) with rfl | rfl | rfl
  · exact number0 o n c l w T hl hn hnc hc2 hs hS
  · exact number1 o n c l w T hl hn hnc hc2 hs hS
  · exact number2 o n c l w T hl hn hnc hc2 hs hS
theorem is_any (k : Nat) (hk : k < 3) (s : B) (hs : s.length ≤ 1000000) (w : World) (T : Tab w) :
    Calls Tryd.prog 43 #[tongV k, .string (bs s)] w fun e w' => e = .returned (.bool (isW k s)) ∧ Below w.heap.size w w' := by
  rcases (show k = 0 ∨ k = 1 ∨ k = 2 by omega) with rfl | rfl | rfl
  · exact is0 s hs w T
  · exact is1 s hs w T
  · exact is2 s hs w T
end Wo
end Go.Proofs.YtebdpdmkehfgfaaDoor
