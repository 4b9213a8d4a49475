/- greatest, over the closures of over and of root. -/
import Derived.Test.YtjhnfejlkljkjaaGreatDoorIntG
namespace Go.Proofs.YtjhnfejlkljkjaaGreatDoor
open Go.RowKit

set_option maxRecDepth 100000 in
set_option maxHeartbeats 1000000 in
theorem greatestC_over (cb : Array Value) (B b0 b1 lo i : Nat) (P : Nat → Bool) (J : World → Prop) (w : World) (hJ : J w)
    (hb : b0 = B ∧ b1 = B + 1 ∧ B + 2 ≤ w.heap.size) (c0 : w.cell? ⟨b0, 0, none⟩ = some (.int .i64 lo)) (c1 : w.cell? ⟨b1, 0, none⟩ = some (.func (.func 63) #[] cb)) (hlo : lo + i + 1 ≤ 9999)
    (hf : ∀ W, J W → B ≤ W.heap.size → Calls Tryz.prog 63 (#[.int .i64 ((lo + i + 1 : Nat) : Int)] ++ cb) W fun e w' => e = .returned (.bool (P (lo + i + 1))) ∧ J w' ∧ W.heap.size ≤ w'.heap.size ∧ ∀ b, B ≤ b → b < W.heap.size → w'.heap[b]? = W.heap[b]?) :
    Calls Tryz.prog 79 (#[.int .i64 i] ++ #[.pointer (some ⟨b1, 0, none⟩), .pointer (some ⟨b0, 0, none⟩)]) w fun e w' => e = .returned (.bool (!P (lo + i + 1))) ∧ (J w' ∧ B + 2 ≤ w'.heap.size ∧ w'.cell? ⟨b0, 0, none⟩ = some (.int .i64 lo) ∧ w'.cell? ⟨b1, 0, none⟩ = some (.func (.func 63) #[] cb)) := by
  have CF := Lib.hid (hf w hJ (by omega))
  rw [show ((lo + i + 1 : Nat) : Int) = (lo : Int) + i + 1 by omega] at CF
  have H0 := Lib.hid c0
  have H1 := Lib.hid c1
  have HB := Lib.hid hb
  clear hf hJ hb
  go_enter Tryz.func79, Tryz.ntmps79
  go_wp2_with fail
  refine Calls.mono CF.out ?_
  rintro e w' ⟨rfl, hJ, hs, hk⟩
  have HK := Lib.hid (show J w' ∧ B + 2 ≤ w'.heap.size ∧ w'.cell? ⟨b0, 0, none⟩ = some (.int .i64 lo) ∧ w'.cell? ⟨b1, 0, none⟩ = some (.func (.func 63) #[] cb) from by
    obtain ⟨e0, e1, e2⟩ := HB.out
    exact ⟨hJ, by omega, (World.cell?_of_block (a := ⟨b0, 0, none⟩) (hk b0 (by omega) (by omega))).trans H0.out, (World.cell?_of_block (a := ⟨b1, 0, none⟩) (hk b1 (by omega) (by omega))).trans H1.out⟩)
  clear hJ hs hk
  go_wp2_with fail
  go_ret
  exact ⟨rfl, HK.out⟩
set_option maxRecDepth 100000 in
set_option maxHeartbeats 1000000 in
theorem greatest_over (cb : Array Value) (lo hi : Nat) (P : Nat → Bool) (J : World → Prop) (w : World) (h : lo ≤ hi) (hhi : hi ≤ 9999) (hJ0 : J w) (hJs : ∀ W W', J W → Below W.heap.size W W' → J W')
    (hf : ∀ (d : Nat) (W : World), d ≤ hi → J W → w.heap.size ≤ W.heap.size → Calls Tryz.prog 63 (#[.int .i64 d] ++ cb) W fun e w' => e = .returned (.bool (P d)) ∧ J w' ∧ W.heap.size ≤ w'.heap.size ∧ ∀ b, w.heap.size ≤ b → b < W.heap.size → w'.heap[b]? = W.heap[b]?)
    (hP : P lo = true) (hmono : ∀ a b, a ≤ b → b ≤ hi → P b = true → P a = true) :
    Calls Tryz.prog 62 #[.int .i64 lo, .int .i64 hi, .func (.func 63) #[] cb] w fun e w' => ∃ k : Nat, e = .returned (.int .i64 k) ∧ lo ≤ k ∧ k ≤ hi ∧ P k = true ∧ (k < hi → P (k + 1) = false) ∧ J w' := by
  obtain ⟨b0, hb0⟩ : ∃ b, b = w.heap.size := ⟨_, rfl⟩
  obtain ⟨b1, hb1⟩ : ∃ b, b = w.heap.size + 1 := ⟨_, rfl⟩
  obtain ⟨n, hn⟩ : ∃ n, hi - lo = n := ⟨_, rfl⟩
  have hnI : (hi : Int) - lo = (n : Int) := by omega
  have wn : IntKind.i64.wrap (n : Int) = (n : Int) := by simp [IntKind.wrap, IntKind.bits, IntKind.signed]; omega
  have CS := Lib.hid (fun (W : World) (hI : J W ∧ w.heap.size + 2 ≤ W.heap.size ∧ W.cell? ⟨b0, 0, none⟩ = some (.int .i64 lo) ∧ W.cell? ⟨b1, 0, none⟩ = some (.func (.func 63) #[] cb)) =>
    search_any #[.pointer (some ⟨b1, 0, none⟩), .pointer (some ⟨b0, 0, none⟩)] n (fun i => !P (lo + i + 1)) (fun W => J W ∧ w.heap.size + 2 ≤ W.heap.size ∧ W.cell? ⟨b0, 0, none⟩ = some (.int .i64 lo) ∧ W.cell? ⟨b1, 0, none⟩ = some (.func (.func 63) #[] cb)) W (by omega) hI
      (fun i W' hi' hI' => greatestC_over cb w.heap.size b0 b1 lo i P J W' hI'.1 ⟨hb0, hb1, hI'.2.1⟩ hI'.2.2.1 hI'.2.2.2 (by omega) (fun W'' hJ'' hs'' => hf (lo + i + 1) W'' (by omega) hJ'' hs''))
      (fun a b hab hbn hpa => by
        have hpa : (!P (lo + a + 1)) = true := hpa
        show (!P (lo + b + 1)) = true
        cases hq : P (lo + b + 1) with
        | false => rfl
        | true =>
          rw [hmono (lo + a + 1) (lo + b + 1) (by omega) (by omega) hq] at hpa
          cases hpa))
  have HP := Lib.hid hP
  have HJ := Lib.hid hJ0
  have HS := Lib.hid hJs
  have HN := Lib.hid hn
  clear hf hmono hP hJ0 hJs hn
  go_enter Tryz.func62, Tryz.ntmps62
  go_upto_region 1 with (fail)
  refine wp_named fun w1 hw => ?_
  have R1 : J w1 ∧ w.heap.size + 2 ≤ w1.heap.size ∧ w1.cell? ⟨b0, 0, none⟩ = some (.int .i64 lo) ∧ w1.cell? ⟨b1, 0, none⟩ = some (.func (.func 63) #[] cb) := by
    rw [hw, hb0, hb1]
    refine ⟨HS.out _ _ HJ.out (((Below.refl _ _).alloc (Nat.le_refl _) _).alloc (by simp) _), by simp, ?_, ?_⟩
    · exact ((Row.new w 3 [.int .i64 lo]).alloc _).cell 0
    · have := (Row.new (w.alloc (.cells #[.int .i64 lo] 3)) 81 [.func (.func 63) #[] cb]).cell 0
      rw [World.size_alloc] at this
      exact this
  try simp only [World.size_alloc]
  rw [← hb1, ← hb0]
  have R2 : J w1.drew ∧ w.heap.size + 2 ≤ w1.drew.heap.size ∧ w1.drew.cell? ⟨b0, 0, none⟩ = some (.int .i64 lo) ∧ w1.drew.cell? ⟨b1, 0, none⟩ = some (.func (.func 63) #[] cb) := ⟨HS.out _ _ R1.1 (Below.refl _ _).drew, R1.2.1, R1.2.2.1, R1.2.2.2⟩
  have CS2 := Lib.hid (CS.out _ R2)
  have c0 := R2.2.2.1
  have c00 : w1.cell? ⟨b0, 0, none⟩ = some (.int .i64 lo) := c0
  clear hw R1 R2 CS hb0 hb1
  first | (go_region_held3 (fun w' => w'.cell? ⟨b0, 0, none⟩ = some (.int .i64 lo)) (first | assumption | go_keep) (first
    | (go_at_call 78; with_reducible refine Calls.mono CS2.out ?_; rintro e w2 ⟨k, rfl, hk, ht, hkn, hI⟩; have HK := Lib.hid (And.intro ht (And.intro hkn hI)); have c2 := hI.2.2.1; clear ht hkn hI))) | fail
  go_wp2_with fail
  go_ret
  have hsum : IntKind.i64.wrap ((lo : Int) + k) = ((lo + k : Nat) : Int) := by
    have := HN.out
    simp [IntKind.wrap, IntKind.bits, IntKind.signed]
    omega
  refine ⟨lo + k, retv (vint hsum), by omega, by have := HN.out; omega, ?_, ?_, HK.out.2.2.1⟩
  · rcases Nat.eq_zero_or_pos k with h0 | h0
    · rw [h0]; exact HP.out
    · have := HK.out.1 (k - 1) (by omega)
      rw [show lo + (k - 1) + 1 = lo + k by omega] at this
      simpa using this
  · intro hlt
    have := HK.out.2.1 (by have := HN.out; omega)
    simpa using this
set_option maxRecDepth 100000 in
set_option maxHeartbeats 1000000 in
theorem greatestC_root (cb : Array Value) (B b0 b1 lo i : Nat) (P : Nat → Bool) (J : World → Prop) (w : World) (hJ : J w)
    (hb : b0 = B ∧ b1 = B + 1 ∧ B + 2 ≤ w.heap.size) (c0 : w.cell? ⟨b0, 0, none⟩ = some (.int .i64 lo)) (c1 : w.cell? ⟨b1, 0, none⟩ = some (.func (.func 66) #[] cb)) (hlo : lo + i + 1 ≤ 9999)
    (hf : ∀ W, J W → B ≤ W.heap.size → Calls Tryz.prog 66 (#[.int .i64 ((lo + i + 1 : Nat) : Int)] ++ cb) W fun e w' => e = .returned (.bool (P (lo + i + 1))) ∧ J w' ∧ W.heap.size ≤ w'.heap.size ∧ ∀ b, B ≤ b → b < W.heap.size → w'.heap[b]? = W.heap[b]?) :
    Calls Tryz.prog 79 (#[.int .i64 i] ++ #[.pointer (some ⟨b1, 0, none⟩), .pointer (some ⟨b0, 0, none⟩)]) w fun e w' => e = .returned (.bool (!P (lo + i + 1))) ∧ (J w' ∧ B + 2 ≤ w'.heap.size ∧ w'.cell? ⟨b0, 0, none⟩ = some (.int .i64 lo) ∧ w'.cell? ⟨b1, 0, none⟩ = some (.func (.func 66) #[] cb)) := by
  have CF := Lib.hid (hf w hJ (by omega))
  rw [show ((lo + i + 1 : Nat) : Int) = (lo : Int) + i + 1 by omega] at CF
  have H0 := Lib.hid c0
  have H1 := Lib.hid c1
  have HB := Lib.hid hb
  clear hf hJ hb
  go_enter Tryz.func79, Tryz.ntmps79
  go_wp2_with fail
  refine Calls.mono CF.out ?_
  rintro e w' ⟨rfl, hJ, hs, hk⟩
  have HK := Lib.hid (show J w' ∧ B + 2 ≤ w'.heap.size ∧ w'.cell? ⟨b0, 0, none⟩ = some (.int .i64 lo) ∧ w'.cell? ⟨b1, 0, none⟩ = some (.func (.func 66) #[] cb) from by
    obtain ⟨e0, e1, e2⟩ := HB.out
    exact ⟨hJ, by omega, (World.cell?_of_block (a := ⟨b0, 0, none⟩) (hk b0 (by omega) (by omega))).trans H0.out, (World.cell?_of_block (a := ⟨b1, 0, none⟩) (hk b1 (by omega) (by omega))).trans H1.out⟩)
  clear hJ hs hk
  go_wp2_with fail
  go_ret
  exact ⟨rfl, HK.out⟩
set_option maxRecDepth 100000 in
set_option maxHeartbeats 1000000 in
theorem greatest_root (cb : Array Value) (lo hi : Nat) (P : Nat → Bool) (J : World → Prop) (w : World) (h : lo ≤ hi) (hhi : hi ≤ 9999) (hJ0 : J w) (hJs : ∀ W W', J W → Below W.heap.size W W' → J W')
    (hf : ∀ (d : Nat) (W : World), d ≤ hi → J W → w.heap.size ≤ W.heap.size → Calls Tryz.prog 66 (#[.int .i64 d] ++ cb) W fun e w' => e = .returned (.bool (P d)) ∧ J w' ∧ W.heap.size ≤ w'.heap.size ∧ ∀ b, w.heap.size ≤ b → b < W.heap.size → w'.heap[b]? = W.heap[b]?)
    (hP : P lo = true) (hmono : ∀ a b, a ≤ b → b ≤ hi → P b = true → P a = true) :
    Calls Tryz.prog 62 #[.int .i64 lo, .int .i64 hi, .func (.func 66) #[] cb] w fun e w' => ∃ k : Nat, e = .returned (.int .i64 k) ∧ lo ≤ k ∧ k ≤ hi ∧ P k = true ∧ (k < hi → P (k + 1) = false) ∧ J w' := by
  obtain ⟨b0, hb0⟩ : ∃ b, b = w.heap.size := ⟨_, rfl⟩
  obtain ⟨b1, hb1⟩ : ∃ b, b = w.heap.size + 1 := ⟨_, rfl⟩
  obtain ⟨n, hn⟩ : ∃ n, hi - lo = n := ⟨_, rfl⟩
  have hnI : (hi : Int) - lo = (n : Int) := by omega
  have wn : IntKind.i64.wrap (n : Int) = (n : Int) := by simp [IntKind.wrap, IntKind.bits, IntKind.signed]; omega
  have CS := Lib.hid (fun (W : World) (hI : J W ∧ w.heap.size + 2 ≤ W.heap.size ∧ W.cell? ⟨b0, 0, none⟩ = some (.int .i64 lo) ∧ W.cell? ⟨b1, 0, none⟩ = some (.func (.func 66) #[] cb)) =>
    search_any #[.pointer (some ⟨b1, 0, none⟩), .pointer (some ⟨b0, 0, none⟩)] n (fun i => !P (lo + i + 1)) (fun W => J W ∧ w.heap.size + 2 ≤ W.heap.size ∧ W.cell? ⟨b0, 0, none⟩ = some (.int .i64 lo) ∧ W.cell? ⟨b1, 0, none⟩ = some (.func (.func 66) #[] cb)) W (by omega) hI
      (fun i W' hi' hI' => greatestC_root cb w.heap.size b0 b1 lo i P J W' hI'.1 ⟨hb0, hb1, hI'.2.1⟩ hI'.2.2.1 hI'.2.2.2 (by omega) (fun W'' hJ'' hs'' => hf (lo + i + 1) W'' (by omega) hJ'' hs''))
      (fun a b hab hbn hpa => by
        have hpa : (!P (lo + a + 1)) = true := hpa
        show (!P (lo + b + 1)) = true
        cases hq : P (lo + b + 1) with
        | false => rfl
        | true =>
          rw [hmono (lo + a + 1) (lo + b + 1) (by omega) (by omega) hq] at hpa
          cases hpa))
  have HP := Lib.hid hP
  have HJ := Lib.hid hJ0
  have HS := Lib.hid hJs
  have HN := Lib.hid hn
  clear hf hmono hP hJ0 hJs hn
  go_enter Tryz.func62, Tryz.ntmps62
  go_upto_region 1 with (fail)
  refine wp_named fun w1 hw => ?_
  have R1 : J w1 ∧ w.heap.size + 2 ≤ w1.heap.size ∧ w1.cell? ⟨b0, 0, none⟩ = some (.int .i64 lo) ∧ w1.cell? ⟨b1, 0, none⟩ = some (.func (.func 66) #[] cb) := by
    rw [hw, hb0, hb1]
    refine ⟨HS.out _ _ HJ.out (((Below.refl _ _).alloc (Nat.le_refl _) _).alloc (by simp) _), by simp, ?_, ?_⟩
    · exact ((Row.new w 3 [.int .i64 lo]).alloc _).cell 0
    · have := (Row.new (w.alloc (.cells #[.int .i64 lo] 3)) 81 [.func (.func 66) #[] cb]).cell 0
      rw [World.size_alloc] at this
      exact this
  try simp only [World.size_alloc]
  rw [← hb1, ← hb0]
  have R2 : J w1.drew ∧ w.heap.size + 2 ≤ w1.drew.heap.size ∧ w1.drew.cell? ⟨b0, 0, none⟩ = some (.int .i64 lo) ∧ w1.drew.cell? ⟨b1, 0, none⟩ = some (.func (.func 66) #[] cb) := ⟨HS.out _ _ R1.1 (Below.refl _ _).drew, R1.2.1, R1.2.2.1, R1.2.2.2⟩
  have CS2 := Lib.hid (CS.out _ R2)
  have c0 := R2.2.2.1
  have c00 : w1.cell? ⟨b0, 0, none⟩ = some (.int .i64 lo) := c0
  clear hw R1 R2 CS hb0 hb1
  first | (go_region_held3 (fun w' => w'.cell? ⟨b0, 0, none⟩ = some (.int .i64 lo)) (first | assumption | go_keep) (first
    | (go_at_call 78; with_reducible refine Calls.mono CS2.out ?_; rintro e w2 ⟨k, rfl, hk, ht, hkn, hI⟩; have HK := Lib.hid (And.intro ht (And.intro hkn hI)); have c2 := hI.2.2.1; clear ht hkn hI))) | fail
  go_wp2_with fail
  go_ret
  have hsum : IntKind.i64.wrap ((lo : Int) + k) = ((lo + k : Nat) : Int) := by
    have := HN.out
    simp [IntKind.wrap, IntKind.bits, IntKind.signed]
    omega
  refine ⟨lo + k, retv (vint hsum), by omega, by have := HN.out; omega, ?_, ?_, HK.out.2.2.1⟩
  · rcases Nat.eq_zero_or_pos k with h0 | h0
    · rw [h0]; exact HP.out
    · have := HK.out.1 (k - 1) (by omega)
      rw [show lo + (k - 1) + 1 = lo + k by omega] at this
      simpa using this
  · intro hlt
    have := HK.out.2.1 (by have := HN.out; omega)
    simpa using this
end Go.Proofs.YtjhnfejlkljkjaaGreatDoor
