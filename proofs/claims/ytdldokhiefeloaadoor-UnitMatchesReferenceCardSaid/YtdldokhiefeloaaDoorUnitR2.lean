/- The reference implementation's operations return what the plain functions say. -/
import Derived.Test.YtdldokhiefeloaaDoorUnitR
import Derived.Test.YtdldokhiefeloaaDoorUnitSums
import Derived.LoopTactic
namespace Go.Proofs.YtdldokhiefeloaaDoor
open Go.RowKit

/-! ### Plain mathematics -/
theorem checkR_known {L H u : Int} (hu : 1 ≤ u) : checkR L H u = if knownB L H u then ⟨L, H, u, 0⟩ else bad := by
  have e : validB L H u = knownB L H u := by
    rw [Bool.eq_iff_iff, validB_iff]
    constructor
    · rintro (h | h)
      · omega
      · exact h
    · exact .inr
  simp [checkR, e]
theorem ceil_eq {h n d : Int} (hd : 1 ≤ d) (_h0 : 0 ≤ h * n) : (h * n + d - 1) / d = if h * n / d * d < h * n then h * n / d + 1 else h * n / d := by
  have h1 := Int.mul_ediv_add_emod (h * n) d
  have h2 := Int.emod_nonneg (h * n) (show d ≠ 0 by omega)
  have h3 := Int.emod_lt_of_pos (h * n) (show 0 < d by omega)
  rw [Int.mul_comm] at h1
  generalize h * n / d = q at *
  generalize h * n % d = r at *
  split
  · rw [show h * n + d - 1 = (r - 1) + (q + 1) * d by rw [Int.add_mul]; omega, Int.add_mul_ediv_right _ _ (by omega), Int.ediv_eq_zero_of_lt (by omega) (by omega)]
    omega
  · rw [show h * n + d - 1 = (d - 1) + q * d by omega, Int.add_mul_ediv_right _ _ (by omega), Int.ediv_eq_zero_of_lt (by omega) (by omega)]
    omega
theorem worth_same {u to c e : Int} (hu : 1 ≤ u ∧ u ≤ 7) (ht : 1 ≤ to ∧ to ≤ 7) (hk : kindZ to = kindZ u) (hne : u ≠ to) :
    worthRN u to c e = worthN u c e * worthD to c e ∧ worthRD u to c e = worthD u c e * worthN to c e := by
  have h1 : u = 1 ∨ u = 2 ∨ u = 3 ∨ u = 4 ∨ u = 5 ∨ u = 6 ∨ u = 7 := by omega
  have h2 : to = 1 ∨ to = 2 ∨ to = 3 ∨ to = 4 ∨ to = 5 ∨ to = 6 ∨ to = 7 := by omega
  rcases h1 with rfl | rfl | rfl | rfl | rfl | rfl | rfl <;> rcases h2 with rfl | rfl | rfl | rfl | rfl | rfl | rfl <;> first | (exact absurd rfl hne) | (exfalso; revert hk; decide) | (simp [worthRN, worthRD, worthN, worthD])
/-- an amount whose bounds are multiplied and rounded -/
def timesR (lo hi to n d : Int) : Res := if knownB (lo * n / d) ((hi * n + d - 1) / d) to then ⟨lo * n / d, (hi * n + d - 1) / d, to, 0⟩ else bad
theorem share_times {lo hi u n d : Int} (hk : knownB lo hi u = true) (hs : shareB n d = true) : shareR lo hi u n d = timesR lo hi u n d := by
  have k := (knownB_iff _ _ _).1 hk
  simp [shareR, hk, hs, timesR, checkR_known k.1]
theorem conv_times {lo hi u to c e : Int} (hk : knownB lo hi u = true) (hr : ratesB c e = true) (ht : kindZ to = kindZ u) : convR lo hi u to c e = timesR lo hi to (worthRN u to c e) (worthRD u to c e) := by
  have k := (knownB_iff _ _ _).1 hk
  have kt : 1 ≤ to ∧ to ≤ 7 := by
    have h1 := kindZ_zero to
    have h2 := kindZ_zero u
    rw [ht] at h1
    omega
  have h0 : convR lo hi u to c e = if u = to then checkR lo hi u else checkR (lo * (worthN u c e * worthD to c e) / (worthD u c e * worthN to c e)) ((hi * (worthN u c e * worthD to c e) + worthD u c e * worthN to c e - 1) / (worthD u c e * worthN to c e)) to := by
    simp [convR, hk, hr, ht]
  rw [h0]
  by_cases q : u = to
  · subst q
    have e1 : worthRN u u c e = 1 ∧ worthRD u u c e = 1 := by
      have h1 : u = 1 ∨ u = 2 ∨ u = 3 ∨ u = 4 ∨ u = 5 ∨ u = 6 ∨ u = 7 := by omega
      rcases h1 with rfl | rfl | rfl | rfl | rfl | rfl | rfl <;> simp [worthRN, worthRD]
    have e2 : (hi + 1 - 1 : Int) = hi := by omega
    rw [if_pos rfl, e1.1, e1.2, checkR_known k.1, timesR]
    simp [e2]
  · obtain ⟨e1, e2⟩ := worth_same (c := c) (e := e) ⟨k.1, k.2.1⟩ kt ht q
    rw [if_neg q, e1, e2, checkR_known kt.1, timesR]
theorem worthR_bd {u to c e : Int} (hr : ratesB c e = true) : 1 ≤ worthRN u to c e ∧ worthRN u to c e ≤ 100000000 ∧ 1 ≤ worthRD u to c e ∧ worthRD u to c e ≤ 100000000 := by
  have r := (ratesB_iff _ _).1 hr
  unfold worthRN worthRD
  repeat' split
  all_goals omega

set_option maxHeartbeats 1000000 in
theorem refAdd_any (a b c x y z : Int) (w : World) :
    Calls Tryd.prog 18 #[.agg #[.int .i64 a, .int .i64 b, .int .i64 c], .agg #[.int .i64 x, .int .i64 y, .int .i64 z]] w fun r w' => r = .returned (resV (addR a b c x y z)) ∧ Below w.heap.size w w' := by
  cases ha : knownB a b c
  · have G1 := Lib.hid (fun w => lit_b ha (givenR_any a b c w))
    rw [show resV (addR a b c x y z) = .tuple #[.agg #[.int .i64 0, .int .i64 0, .int .i64 0], .int .i64 50] by simp [addR, ha, resV, bad]]
    clear ha
    go_enter Tryd.func18, Tryd.ntmps18
    go_wp2_with fail
    refine (G1.out _).mono ?_
    rintro e w1 ⟨rfl, hb⟩
    obtain ⟨hc1, hf1, hz1⟩ := after (B := w.heap.size) 3 hb (by first | assumption | (simp; done) | (simp; omega) | omega | (have := HS.out; omega)); have HB1 := Lib.hid hb; clear hb
    go_wp2
    refine bodyPost_ret (v := _) (by first | (simp [results, Tryd.results18, go_sem]; done) | simp [results, Tryd.results18, go_sem, *]) rfl ⟨rfl, by (repeat' first | exact Below.refl _ _ | assumption | (refine Below.andThen ?_ HB1.out) | (exact HB1.out.size) | (refine below_drewN ?_ _) | (refine Below.drew ?_) | (refine Below.alloc ?_ ?_ _) | (refine Below.setCell ?_ ?_ _) | (simp; done) | (simp; omega) | omega)⟩
  · have k := (knownB_iff _ _ _).1 ha
    have G1 := Lib.hid (fun w => lit_b ha (givenR_any a b c w))
    cases hx : knownB x y z
    · have G2 := Lib.hid (fun w => lit_b hx (givenR_any x y z w))
      rw [show resV (addR a b c x y z) = .tuple #[.agg #[.int .i64 0, .int .i64 0, .int .i64 0], .int .i64 50] by simp [addR, hx, resV, bad]]
      clear ha hx k
      go_enter Tryd.func18, Tryd.ntmps18
      go_wp2_with fail
      refine (G1.out _).mono ?_
      rintro e w1 ⟨rfl, hb⟩
      obtain ⟨hc1, hf1, hz1⟩ := after (B := w.heap.size) 3 hb (by first | assumption | (simp; done) | (simp; omega) | omega | (have := HS.out; omega)); have HB1 := Lib.hid hb; clear hb
      go_wp2_with fail
      refine (G2.out _).mono ?_
      rintro e w2 ⟨rfl, hb⟩
      obtain ⟨hc2, hf2, hz2⟩ := after (B := w.heap.size) 3 hb (by first | assumption | (simp; done) | (simp; omega) | omega | (have := HS.out; omega)); have HB2 := Lib.hid hb; clear hb
      go_wp2
      refine bodyPost_ret (v := _) (by first | (simp [results, Tryd.results18, go_sem]; done) | simp [results, Tryd.results18, go_sem, *]) rfl ⟨rfl, by (repeat' first | exact Below.refl _ _ | assumption | (refine Below.andThen ?_ HB2.out) | (exact HB2.out.size) | (refine Below.andThen ?_ HB1.out) | (exact HB1.out.size) | (refine below_drewN ?_ _) | (refine Below.drew ?_) | (refine Below.alloc ?_ ?_ _) | (refine Below.setCell ?_ ?_ _) | (simp; done) | (simp; omega) | omega)⟩
    · have k' := (knownB_iff _ _ _).1 hx
      have G2 := Lib.hid (fun w => lit_b hx (givenR_any x y z w))
      have key : (c ≠ z ∧ resV (addR a b c x y z) = .tuple #[.agg #[.int .i64 0, .int .i64 0, .int .i64 0], .int .i64 50]) ∨ (c = z ∧ 999999 < b + y ∧ resV (addR a b c x y z) = .tuple #[.agg #[.int .i64 0, .int .i64 0, .int .i64 0], .int .i64 50]) ∨ (c = z ∧ b + y ≤ 999999 ∧ resV (addR a b c x y z) = .tuple #[.agg #[.int .i64 (a + x), .int .i64 (b + y), .int .i64 c], .int .i64 0]) := by
        by_cases hc : c = z
        · subst hc
          by_cases hs : b + y ≤ 999999
          · exact .inr (.inr ⟨rfl, hs, by rw [add_known ha hx, known_checkR k.1 k.2.1 (by omega) (by omega) hs]; rfl⟩)
          · exact .inr (.inl ⟨rfl, by omega, by rw [add_known ha hx, big_checkR k.1 (by omega)]; rfl⟩)
        · exact .inl ⟨hc, by simp [addR, hc, resV, bad]⟩
      obtain ⟨k1, k2, k3, k4⟩ : 0 ≤ a ∧ a ≤ 999999 ∧ 0 ≤ b ∧ b ≤ 999999 := by omega
      obtain ⟨k5, k6, k7, k8⟩ : 0 ≤ x ∧ x ≤ 999999 ∧ 0 ≤ y ∧ y ≤ 999999 := by omega
      clear ha hx k k'
      rcases key with ⟨h1, e⟩ | ⟨rfl, h1, e⟩ | ⟨rfl, h1, e⟩
      all_goals
        rw [e]
        clear e
        go_enter Tryd.func18, Tryd.ntmps18
        go_wp2_with fail
        refine (G1.out _).mono ?_
        rintro e w1 ⟨rfl, hb⟩
        obtain ⟨hc1, hf1, hz1⟩ := after (B := w.heap.size) 3 hb (by first | assumption | (simp; done) | (simp; omega) | omega | (have := HS.out; omega)); have HB1 := Lib.hid hb; clear hb
        go_wp2_with fail
        refine (G2.out _).mono ?_
        rintro e w2 ⟨rfl, hb⟩
        obtain ⟨hc2, hf2, hz2⟩ := after (B := w.heap.size) 3 hb (by first | assumption | (simp; done) | (simp; omega) | omega | (have := HS.out; omega)); have HB2 := Lib.hid hb; clear hb
        go_wp2
        refine bodyPost_ret (v := _) (by first | (simp [results, Tryd.results18, go_sem]; done) | simp [results, Tryd.results18, go_sem, *]) rfl ⟨rfl, by (repeat' first | exact Below.refl _ _ | assumption | (refine Below.andThen ?_ HB2.out) | (exact HB2.out.size) | (refine Below.andThen ?_ HB1.out) | (exact HB1.out.size) | (refine below_drewN ?_ _) | (refine Below.drew ?_) | (refine Below.alloc ?_ ?_ _) | (refine Below.setCell ?_ ?_ _) | (simp; done) | (simp; omega) | omega)⟩

end Go.Proofs.YtdldokhiefeloaaDoor
