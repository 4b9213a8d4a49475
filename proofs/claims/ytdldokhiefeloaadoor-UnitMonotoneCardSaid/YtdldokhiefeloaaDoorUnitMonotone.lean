/- UnitMonotone: what contains an amount contains it also when both are converted, made coarse, shared and added to. -/
import Derived.Test.YtdldokhiefeloaaDoorUnitOutward
import Derived.Test.YtdldokhiefeloaaDoorLate
namespace Go.Proofs.YtdldokhiefeloaaDoor
open Go.RowKit

/-! ### Plain mathematics -/
theorem mono_gen {lo hi x y u n d : Int} (hu1 : 1 ≤ u) (hu2 : u ≤ 7) (h0 : 0 ≤ lo) (h1 : lo ≤ x) (h2 : x ≤ y) (h3 : y ≤ hi) (hn : 0 ≤ n) (hd : 1 ≤ d) :
    (checkR (lo * n / d) ((hi * n + d - 1) / d) u).e = 50 ∨
    ((checkR (lo * n / d) ((hi * n + d - 1) / d) u).e = 0 ∧ (checkR (x * n / d) ((y * n + d - 1) / d) u).e = 0 ∧
      containsB (checkR (lo * n / d) ((hi * n + d - 1) / d) u).lo (checkR (lo * n / d) ((hi * n + d - 1) / d) u).hi (checkR (lo * n / d) ((hi * n + d - 1) / d) u).u
        (checkR (x * n / d) ((y * n + d - 1) / d) u).lo (checkR (x * n / d) ((y * n + d - 1) / d) u).hi (checkR (x * n / d) ((y * n + d - 1) / d) u).u = true) := by
  have m0 : 0 ≤ lo * n := Int.mul_nonneg h0 hn
  have m1 : lo * n ≤ x * n := Int.mul_le_mul_of_nonneg_right h1 hn
  have m2 : x * n ≤ y * n := Int.mul_le_mul_of_nonneg_right h2 hn
  have m3 : y * n ≤ hi * n := Int.mul_le_mul_of_nonneg_right h3 hn
  have c1 : 0 ≤ lo * n / d := Int.ediv_nonneg m0 (by omega)
  have c2 : lo * n / d ≤ x * n / d := Int.ediv_le_ediv (by omega) m1
  have c3 : x * n / d ≤ (y * n + d - 1) / d := Int.ediv_le_ediv (by omega) (by omega)
  have c4 : (y * n + d - 1) / d ≤ (hi * n + d - 1) / d := Int.ediv_le_ediv (by omega) (by omega)
  generalize lo * n / d = L at *
  generalize (hi * n + d - 1) / d = H at *
  generalize x * n / d = L' at *
  generalize (y * n + d - 1) / d = H' at *
  by_cases hb : H ≤ 999999
  · rw [known_checkR hu1 hu2 c1 (by omega) hb, known_checkR hu1 hu2 (show 0 ≤ L' by omega) c3 (by omega)]
    refine .inr ⟨rfl, rfl, ?_⟩
    dsimp only
    exact contains_of (valid_of hu1 hu2 c1 (by omega) hb) (valid_of hu1 hu2 (by omega) c3 (by omega)) c2 c4
  · rw [big_checkR hu1 (by omega)]
    exact .inl rfl

theorem conv_mono {lo hi x y u c e : Int} (o : Bool) (hk : knownB lo hi u = true) (hx : knownB x y u = true) (h1 : lo ≤ x) (h3 : y ≤ hi) (hr : ratesB c e = true) :
    (convR lo hi u (partnerZ u o) c e).e = 50 ∨ ((convR lo hi u (partnerZ u o) c e).e = 0 ∧ (convR x y u (partnerZ u o) c e).e = 0 ∧
      containsB (convR lo hi u (partnerZ u o) c e).lo (convR lo hi u (partnerZ u o) c e).hi (convR lo hi u (partnerZ u o) c e).u (convR x y u (partnerZ u o) c e).lo (convR x y u (partnerZ u o) c e).hi (convR x y u (partnerZ u o) c e).u = true) := by
  have k := (knownB_iff _ _ _).1 hk
  have k' := (knownB_iff _ _ _).1 hx
  have r := (ratesB_iff _ _).1 hr
  obtain ⟨t1, t2, t3⟩ := partnerZ_ok u o ⟨k.1, k.2.1⟩
  by_cases q0 : u = partnerZ u o
  · rw [← q0, convR_same hk hr, convR_same hx hr]
    refine .inr ⟨rfl, rfl, ?_⟩
    dsimp only
    exact contains_of (valid_of k.1 k.2.1 k.2.2.1 k.2.2.2.1 k.2.2.2.2) (valid_of k.1 k.2.1 k'.2.2.1 k'.2.2.2.1 k'.2.2.2.2) h1 h3
  · obtain ⟨p1, p2, p3, p4⟩ := worth_bd u (partnerZ u o) c e ⟨k.1, k.2.1⟩ ⟨t1, t2⟩ t3 ⟨r.1, r.2.1⟩ ⟨r.2.2.1, r.2.2.2⟩ q0
    have hc : ∀ a b, knownB a b u = true → convR a b u (partnerZ u o) c e = checkR (a * (worthN u c e * worthD (partnerZ u o) c e) / (worthD u c e * worthN (partnerZ u o) c e)) ((b * (worthN u c e * worthD (partnerZ u o) c e) + worthD u c e * worthN (partnerZ u o) c e - 1) / (worthD u c e * worthN (partnerZ u o) c e)) (partnerZ u o) := by
      intro a b hab
      simp [convR, hab, hr, t3, q0]
    rw [hc lo hi hk, hc x y hx]
    exact mono_gen t1 t2 k.2.2.1 h1 k'.2.2.2.1 h3 (by omega) p3

theorem share_mono {lo hi x y u p q : Int} (hk : knownB lo hi u = true) (hx : knownB x y u = true) (h1 : lo ≤ x) (h3 : y ≤ hi) (hp : 0 ≤ p) (hp2 : p ≤ 1000) (hq1 : 1 ≤ q) (hq2 : q ≤ 1000) :
    (shareR lo hi u p q).e = 50 ∨ ((shareR lo hi u p q).e = 0 ∧ (shareR x y u p q).e = 0 ∧
      containsB (shareR lo hi u p q).lo (shareR lo hi u p q).hi (shareR lo hi u p q).u (shareR x y u p q).lo (shareR x y u p q).hi (shareR x y u p q).u = true) := by
  have k := (knownB_iff _ _ _).1 hk
  have k' := (knownB_iff _ _ _).1 hx
  have s1 : shareB p q = true := by simp [shareB]; omega
  have hc : ∀ a b, knownB a b u = true → shareR a b u p q = checkR (a * p / q) ((b * p + q - 1) / q) u := by
    intro a b hab
    simp [shareR, hab, s1]
  rw [hc lo hi hk, hc x y hx]
  exact mono_gen k.1 k.2.1 k.2.2.1 h1 k'.2.2.2.1 h3 hp hq1

theorem coarse_mono {lo hi x y u s : Int} (hk : knownB lo hi u = true) (hx : knownB x y u = true) (h1 : lo ≤ x) (h3 : y ≤ hi) (hs : s = 1 ∨ s = 10 ∨ s = 100 ∨ s = 1000 ∨ s = 10000) :
    (coarseR lo hi u s).e = 50 ∨ ((coarseR lo hi u s).e = 0 ∧ (coarseR x y u s).e = 0 ∧
      containsB (coarseR lo hi u s).lo (coarseR lo hi u s).hi (coarseR lo hi u s).u (coarseR x y u s).lo (coarseR x y u s).hi (coarseR x y u s).u = true) := by
  have k := (knownB_iff _ _ _).1 hk
  have k' := (knownB_iff _ _ _).1 hx
  have hs' : stepB s = true := by rcases hs with rfl | rfl | rfl | rfl | rfl <;> rfl
  have a1 := dn_up lo s hs k.2.2.1
  have a2 := dn_up hi s hs (by omega)
  have a3 := dn_up x s hs k'.2.2.1
  have a4 := dn_up y s hs (by omega)
  have c1 : dn lo s ≤ dn x s := by unfold dn; rcases hs with rfl | rfl | rfl | rfl | rfl <;> omega
  have c2 : up y s ≤ up hi s := by unfold up; rcases hs with rfl | rfl | rfl | rfl | rfl <;> omega
  rw [coarse_eq hk hs', coarse_eq hx hs']
  by_cases hb : up hi s ≤ 999999
  · rw [known_checkR k.1 k.2.1 a1.1 (by omega) hb, known_checkR k.1 k.2.1 a3.1 (by omega) (by omega)]
    refine .inr ⟨rfl, rfl, ?_⟩
    dsimp only
    exact contains_of (valid_of k.1 k.2.1 a1.1 (by omega) hb) (valid_of k.1 k.2.1 a3.1 (by omega) (by omega)) c1 c2
  · rw [big_checkR k.1 (by omega)]
    exact .inl rfl

theorem add_mono {lo hi x y u a b : Int} (hk : knownB lo hi u = true) (hx : knownB x y u = true) (h1 : lo ≤ x) (h3 : y ≤ hi) (ha : knownB a b u = true) :
    (addR lo hi u a b u).e = 50 ∨ ((addR lo hi u a b u).e = 0 ∧ (addR x y u a b u).e = 0 ∧
      containsB (addR lo hi u a b u).lo (addR lo hi u a b u).hi (addR lo hi u a b u).u (addR x y u a b u).lo (addR x y u a b u).hi (addR x y u a b u).u = true) := by
  have k := (knownB_iff _ _ _).1 hk
  have k' := (knownB_iff _ _ _).1 hx
  have ka := (knownB_iff _ _ _).1 ha
  have e1 : addR lo hi u a b u = checkR (lo + a) (hi + b) u := by simp [addR, hk, ha]
  have e2 : addR x y u a b u = checkR (x + a) (y + b) u := by simp [addR, hx, ha]
  rw [e1, e2]
  by_cases hb : hi + b ≤ 999999
  · rw [known_checkR k.1 k.2.1 (by omega) (by omega) hb, known_checkR k.1 k.2.1 (by omega) (by omega) (by omega)]
    refine .inr ⟨rfl, rfl, ?_⟩
    dsimp only
    exact contains_of (valid_of k.1 k.2.1 (by omega) (by omega) hb) (valid_of k.1 k.2.1 (by omega) (by omega) (by omega)) (by omega) (by omega)
  · rw [big_checkR k.1 (by omega)]
    exact .inl rfl

/-! ### The walk -/
theorem block_lt {w : World} {b : Nat} {O : Obj} (h : w.heap[b]? = some O) : b < w.heap.size := by
  rw [Array.getElem?_eq_some_iff] at h
  exact h.1
theorem ne1 {w : World} {b c : Nat} {v0 : Value} (h : Has1 w b v0) (hl : w.heap.size ≤ c) : c ≠ b := by have := h.1; omega
theorem ne2 {w : World} {b c : Nat} {v0 v1 : Value} (h : Has2 w b v0 v1) (hl : w.heap.size ≤ c) : c ≠ b := by have := h.1; omega
theorem ne3 {w : World} {b c : Nat} {v0 v1 v2 : Value} (h : Has3 w b v0 v1 v2) (hl : w.heap.size ≤ c) : c ≠ b := by have := h.1; omega
end Go.Proofs.YtdldokhiefeloaaDoor
