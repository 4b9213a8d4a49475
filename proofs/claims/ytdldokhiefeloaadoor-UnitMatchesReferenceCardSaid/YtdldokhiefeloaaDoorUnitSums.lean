/- UnitSums: sums and common parts are commutative and associative, and what is converted lies in the sum of what was converted. -/
import Derived.Test.YtdldokhiefeloaaDoorUnitOutward
namespace Go.Proofs.YtdldokhiefeloaaDoor
open Go.RowKit

/-! ### Plain mathematics -/
theorem known_mk {lo hi u : Int} (h1 : 1 ≤ u) (h2 : u ≤ 7) (h3 : 0 ≤ lo) (h4 : lo ≤ hi) (h5 : hi ≤ 999999) : knownB lo hi u = true := (knownB_iff _ _ _).2 ⟨h1, h2, h3, h4, h5⟩
theorem add_known {a b x y u : Int} (ha : knownB a b u = true) (hx : knownB x y u = true) : addR a b u x y u = checkR (a + x) (b + y) u := by simp [addR, ha, hx]
theorem meet_known {a b x y u : Int} (ha : knownB a b u = true) (hx : knownB x y u = true) : meetR a b u x y u = checkR (max a x) (min b y) u := by simp [meetR, ha, hx]
theorem off_checkR {lo hi u : Int} (_h1 : 1 ≤ u) (h5 : hi < lo) : checkR lo hi u = bad := by
  have : validB lo hi u = false := by
    rw [Bool.eq_false_iff]
    intro h
    rcases (validB_iff _ _ _).1 h with h | h
    · omega
    · have := (knownB_iff _ _ _).1 h; omega
  simp [checkR, this]
theorem add_bad {x y u : Int} : addR 0 0 0 x y u = bad := by simp [addR, knownB, kindZ]

/-- sums: commutative; an error exactly if too great -/
theorem add_math {a b x y u : Int} (ha : knownB a b u = true) (hx : knownB x y u = true) :
    addR a b u x y u = addR x y u a b u ∧ ((b + y ≤ 999999 ∧ addR a b u x y u = ⟨a + x, b + y, u, 0⟩ ∧ knownB (a + x) (b + y) u = true) ∨ (999999 < b + y ∧ addR a b u x y u = bad)) := by
  have k := (knownB_iff _ _ _).1 ha
  have k' := (knownB_iff _ _ _).1 hx
  rw [add_known ha hx, add_known hx ha]
  refine ⟨by rw [Int.add_comm a x, Int.add_comm b y], ?_⟩
  by_cases h : b + y ≤ 999999
  · exact .inl ⟨h, known_checkR k.1 k.2.1 (by omega) (by omega) h, known_mk k.1 k.2.1 (by omega) (by omega) h⟩
  · exact .inr ⟨by omega, big_checkR k.1 (by omega)⟩

/-- sums: associative -/
theorem add_assoc_math {a b x y c d u : Int} (ha : knownB a b u = true) (hx : knownB x y u = true) (hc : knownB c d u = true) (h1 : b + y ≤ 999999) (h2 : y + d ≤ 999999) :
    addR (a + x) (b + y) u c d u = addR a b u (x + c) (y + d) u := by
  have k := (knownB_iff _ _ _).1 ha
  have k' := (knownB_iff _ _ _).1 hx
  have k'' := (knownB_iff _ _ _).1 hc
  rw [add_known (known_mk k.1 k.2.1 (by omega) (by omega) h1) hc, add_known ha (known_mk k.1 k.2.1 (by omega) (by omega) h2), Int.add_assoc, Int.add_assoc]

/-- common parts: commutative; an error exactly if there is none -/
theorem meet_math {a b x y u : Int} (ha : knownB a b u = true) (hx : knownB x y u = true) :
    meetR a b u x y u = meetR x y u a b u ∧ meetR a b u a b u = ⟨a, b, u, 0⟩ ∧
    ((max a x ≤ min b y ∧ meetR a b u x y u = ⟨max a x, min b y, u, 0⟩ ∧ knownB (max a x) (min b y) u = true) ∨ (min b y < max a x ∧ meetR a b u x y u = bad)) := by
  have k := (knownB_iff _ _ _).1 ha
  have k' := (knownB_iff _ _ _).1 hx
  rw [meet_known ha hx, meet_known hx ha, meet_known ha ha]
  refine ⟨by rw [Int.max_comm a x, Int.min_comm b y], ?_, ?_⟩
  · rw [Int.max_self, Int.min_self]
    exact known_checkR k.1 k.2.1 k.2.2.1 k.2.2.2.1 k.2.2.2.2
  · by_cases h : max a x ≤ min b y
    · exact .inl ⟨h, known_checkR k.1 k.2.1 (by omega) h (by omega), known_mk k.1 k.2.1 (by omega) h (by omega)⟩
    · exact .inr ⟨by omega, off_checkR k.1 (by omega)⟩

/-- common parts: associative, where both are -/
theorem meet_assoc_math {a b x y c d u : Int} (ha : knownB a b u = true) (hx : knownB x y u = true) (hc : knownB c d u = true) (h1 : max a x ≤ min b y) (h2 : max x c ≤ min y d) :
    meetR (max a x) (min b y) u c d u = meetR a b u (max x c) (min y d) u := by
  have k := (knownB_iff _ _ _).1 ha
  have k' := (knownB_iff _ _ _).1 hx
  have k'' := (knownB_iff _ _ _).1 hc
  rw [meet_known (known_mk k.1 k.2.1 (by omega) h1 (by omega)) hc, meet_known ha (known_mk k.1 k.2.1 (by omega) h2 (by omega)), Int.max_assoc, Int.min_assoc]

/-- what both contain contains the common part, and what both hold is in it -/
theorem meet_greatest {a b x y c d u : Int} (ha : knownB a b u = true) (hx : knownB x y u = true) (hc : knownB c d u = true) (h1 : max a x ≤ min b y) :
    containsB a b u (max a x) (min b y) u = true ∧ containsB x y u (max a x) (min b y) u = true ∧
    (containsB a b u c d u = false ∨ containsB x y u c d u = false ∨ containsB (max a x) (min b y) u c d u = true) := by
  have k := (knownB_iff _ _ _).1 ha
  have k' := (knownB_iff _ _ _).1 hx
  have k'' := (knownB_iff _ _ _).1 hc
  have v1 := valid_of k.1 k.2.1 k.2.2.1 k.2.2.2.1 k.2.2.2.2
  have v2 := valid_of k.1 k.2.1 k'.2.2.1 k'.2.2.2.1 k'.2.2.2.2
  have v3 := valid_of k.1 k.2.1 k''.2.2.1 k''.2.2.2.1 k''.2.2.2.2
  have v4 := valid_of (a := max a x) (b := min b y) k.1 k.2.1 (by omega) h1 (by omega)
  refine ⟨contains_of v1 v4 (by omega) (by omega), contains_of v2 v4 (by omega) (by omega), ?_⟩
  by_cases h2 : a ≤ c ∧ d ≤ b
  · by_cases h3 : x ≤ c ∧ d ≤ y
    · exact .inr (.inr (contains_of v4 v3 (by omega) (by omega)))
    · refine .inr (.inl ?_)
      simp [containsB, v2, v3]
      omega
  · refine .inl ?_
    simp [containsB, v1, v3]
    omega

/-- rounding of sums -/
theorem sum_round (x y n d : Int) (hd : 1 ≤ d) : x * n / d + y * n / d ≤ (x + y) * n / d ∧ ((x + y) * n + d - 1) / d ≤ (x * n + d - 1) / d + (y * n + d - 1) / d := by
  have e : (x + y) * n = x * n + y * n := Int.add_mul ..
  rw [e]
  generalize x * n = X at *
  generalize y * n = Y at *
  have a1 := Int.ediv_mul_le X (show d ≠ 0 by omega)
  have a2 := Int.ediv_mul_le Y (show d ≠ 0 by omega)
  have b1 := Int.lt_ediv_add_one_mul_self (X + d - 1) (show 0 < d by omega)
  have b2 := Int.lt_ediv_add_one_mul_self (Y + d - 1) (show 0 < d by omega)
  generalize X / d = p at *
  generalize Y / d = q at *
  generalize (X + d - 1) / d = r at *
  generalize (Y + d - 1) / d = s at *
  rw [Int.add_mul, Int.one_mul] at b1 b2
  constructor
  · rw [Int.le_ediv_iff_mul_le (by omega), Int.add_mul]; omega
  · have : (X + Y + d - 1) / d < r + s + 1 := Int.ediv_lt_of_lt_mul (by omega) (by rw [Int.add_mul, Int.add_mul, Int.one_mul]; omega)
    omega

theorem conv_form {a b u c e : Int} (o : Bool) (ha : knownB a b u = true) (hr : ratesB c e = true) (hne : u ≠ partnerZ u o) :
    convR a b u (partnerZ u o) c e = checkR (a * (worthN u c e * worthD (partnerZ u o) c e) / (worthD u c e * worthN (partnerZ u o) c e)) ((b * (worthN u c e * worthD (partnerZ u o) c e) + worthD u c e * worthN (partnerZ u o) c e - 1) / (worthD u c e * worthN (partnerZ u o) c e)) (partnerZ u o) := by
  have k := (knownB_iff _ _ _).1 ha
  obtain ⟨t1, t2, t3⟩ := partnerZ_ok u o ⟨k.1, k.2.1⟩
  simp [convR, ha, hr, t3, hne]

theorem conv_sum {a b x y u c e : Int} (ha : knownB a b u = true) (hx : knownB x y u = true) (hr : ratesB c e = true) (h1 : b + y ≤ 999999) {p q s t : Res}
    (hp : convR a b u (partnerZ u true) c e = p) (hq : convR x y u (partnerZ u true) c e = q) (hs : convR (a + x) (b + y) u (partnerZ u true) c e = s) (ht : addR p.lo p.hi p.u q.lo q.hi q.u = t) :
    p.e = 50 ∨ (p.e = 0 ∧ q.e = 50) ∨ (p.e = 0 ∧ q.e = 0 ∧ t.e = 50) ∨ (p.e = 0 ∧ q.e = 0 ∧ t.e = 0 ∧ s.e = 0 ∧ containsB t.lo t.hi t.u s.lo s.hi s.u = true) := by
  have k := (knownB_iff _ _ _).1 ha
  have k' := (knownB_iff _ _ _).1 hx
  have r := (ratesB_iff _ _).1 hr
  have hsum : knownB (a + x) (b + y) u = true := known_mk k.1 k.2.1 (by omega) (by omega) h1
  obtain ⟨t1, t2, t3⟩ := partnerZ_ok u true ⟨k.1, k.2.1⟩
  by_cases q0 : u = partnerZ u true
  · rw [← q0, convR_same ha hr] at hp
    rw [← q0, convR_same hx hr] at hq
    rw [← q0, convR_same hsum hr] at hs
    subst hp hq hs
    dsimp only at ht
    rw [add_known ha hx, known_checkR k.1 k.2.1 (by omega) (by omega) h1] at ht
    subst ht
    refine .inr (.inr (.inr ⟨rfl, rfl, rfl, rfl, ?_⟩))
    dsimp only
    exact contains_of (valid_of k.1 k.2.1 (by omega) (by omega) h1) (valid_of k.1 k.2.1 (by omega) (by omega) h1) (Int.le_refl _) (Int.le_refl _)
  · obtain ⟨p1, p2, p3, p4⟩ := worth_bd u (partnerZ u true) c e ⟨k.1, k.2.1⟩ ⟨t1, t2⟩ t3 ⟨r.1, r.2.1⟩ ⟨r.2.2.1, r.2.2.2⟩ q0
    rw [conv_form true ha hr q0] at hp
    rw [conv_form true hx hr q0] at hq
    rw [conv_form true hsum hr q0] at hs
    generalize worthN u c e * worthD (partnerZ u true) c e = n at *
    generalize worthD u c e * worthN (partnerZ u true) c e = d at *
    generalize partnerZ u true = to at *
    have c1 : 0 ≤ a * n / d := Int.ediv_nonneg (Int.mul_nonneg k.2.2.1 (by omega)) (by omega)
    have c2 : 0 ≤ x * n / d := Int.ediv_nonneg (Int.mul_nonneg k'.2.2.1 (by omega)) (by omega)
    have m1 : a * n ≤ b * n := Int.mul_le_mul_of_nonneg_right k.2.2.2.1 (by omega)
    have m2 : x * n ≤ y * n := Int.mul_le_mul_of_nonneg_right k'.2.2.2.1 (by omega)
    have d1 : a * n / d ≤ (b * n + d - 1) / d := Int.ediv_le_ediv (by omega) (by omega)
    have d2 : x * n / d ≤ (y * n + d - 1) / d := Int.ediv_le_ediv (by omega) (by omega)
    have s1 := (sum_round a x n d p3).1
    have s2 := (sum_round b y n d p3).2
    have m3 : (a + x) * n ≤ (b + y) * n := Int.mul_le_mul_of_nonneg_right (by omega) (by omega)
    have d3 : (a + x) * n / d ≤ ((b + y) * n + d - 1) / d := Int.ediv_le_ediv (by omega) (by omega)
    generalize a * n / d = A at *
    generalize (b * n + d - 1) / d = B at *
    generalize x * n / d = X at *
    generalize (y * n + d - 1) / d = Y at *
    generalize (a + x) * n / d = S at *
    generalize ((b + y) * n + d - 1) / d = R at *
    by_cases hB : B ≤ 999999
    · rw [known_checkR t1 t2 c1 d1 hB] at hp
      subst hp
      by_cases hY : Y ≤ 999999
      · rw [known_checkR t1 t2 c2 d2 hY] at hq
        subst hq
        dsimp only at ht
        rw [add_known (known_mk t1 t2 c1 d1 hB) (known_mk t1 t2 c2 d2 hY)] at ht
        by_cases hT : B + Y ≤ 999999
        · rw [known_checkR t1 t2 (by omega) (by omega) hT] at ht
          rw [known_checkR t1 t2 (by omega) d3 (by omega)] at hs
          subst ht hs
          refine .inr (.inr (.inr ⟨rfl, rfl, rfl, rfl, ?_⟩))
          dsimp only
          exact contains_of (valid_of t1 t2 (by omega) (by omega) hT) (valid_of t1 t2 (by omega) d3 (by omega)) s1 s2
        · rw [big_checkR t1 (by omega)] at ht
          subst ht
          exact .inr (.inr (.inl ⟨rfl, rfl, rfl⟩))
      · rw [big_checkR t1 (by omega)] at hq
        subst hq
        exact .inr (.inl ⟨rfl, rfl⟩)
    · rw [big_checkR t1 (by omega)] at hp
      subst hp
      exact .inl rfl
end Go.Proofs.YtdldokhiefeloaaDoor
