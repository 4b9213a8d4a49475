/- For every input, IntegerCommon returns true; the listed tables hold what the program's text lays. -/
import Derived.Test.YtjhnfejlkljkjaaDoorIntOps
namespace Go.Proofs.YtjhnfejlkljkjaaDoor
open Go.RowKit Go.ChangeShapes Go.WideShapes Go.ChangeAt

theorem gcdZ_comm (x y : Int) : In.gcdZ y x = In.gcdZ x y := by
  show ((Nat.gcd y.natAbs x.natAbs : Nat) : Int) = _
  rw [Nat.gcd_comm]
theorem gcdZ_pos (x y : Int) : 0 ≤ In.gcdZ x y := Int.natCast_nonneg _
theorem gcdZ_lt {x y : Int} {k : Nat} (hx : x.natAbs < 10 ^ k) (hy : y.natAbs < 10 ^ k) : (In.gcdZ x y).natAbs < 10 ^ k := by
  show Int.natAbs ((Nat.gcd x.natAbs y.natAbs : Nat) : Int) < _
  rw [Int.natAbs_natCast]
  rcases Nat.eq_zero_or_pos x.natAbs with h0 | h0
  · rw [h0, Nat.gcd_zero_left]; exact hy
  · exact Nat.lt_of_le_of_lt (Nat.gcd_le_left _ h0) hx
theorem gcdZ_ne {x y : Int} (h : ¬ (x = 0 ∧ y = 0)) : In.gcdZ x y ≠ 0 := by
  show ((Nat.gcd x.natAbs y.natAbs : Nat) : Int) ≠ 0
  intro e
  have := Nat.gcd_eq_zero_iff.1 (show Nat.gcd x.natAbs y.natAbs = 0 by omega)
  omega
theorem gcdZ_left (x y : Int) : ∃ p, x = In.gcdZ x y * p := Int.ofNat_dvd_left.2 (Nat.gcd_dvd_left _ _)
theorem gcdZ_right (x y : Int) : ∃ p, y = In.gcdZ x y * p := Int.ofNat_dvd_left.2 (Nat.gcd_dvd_right _ _)
theorem gcdZ_parts (x y : Int) (h : In.gcdZ x y ≠ 0) : x % In.gcdZ x y = 0 ∧ y % In.gcdZ x y = 0 ∧ In.gcdZ (x / In.gcdZ x y) (y / In.gcdZ x y) = 1 := by
  obtain ⟨p, hp⟩ := gcdZ_left x y
  obtain ⟨q, hq⟩ := gcdZ_right x y
  have hg : In.gcdZ x y = In.gcdZ (In.gcdZ x y * p) (In.gcdZ x y * q) := by rw [← hp, ← hq]
  generalize In.gcdZ x y = g at *
  subst hp hq
  refine ⟨Int.mul_emod_right _ _, Int.mul_emod_right _ _, ?_⟩
  rw [Int.mul_ediv_cancel_left _ h, Int.mul_ediv_cancel_left _ h]
  unfold In.gcdZ at hg ⊢
  rw [Int.natAbs_mul, Int.natAbs_mul, Nat.gcd_mul_left] at hg
  have h1 : g.natAbs = g.natAbs * Nat.gcd p.natAbs q.natAbs := by
    have h2 := congrArg Int.natAbs hg
    rwa [Int.natAbs_natCast] at h2
  have h3 : Nat.gcd p.natAbs q.natAbs = 1 := Nat.eq_of_mul_eq_mul_left (show 0 < g.natAbs by omega) (by rw [← h1, Nat.mul_one])
  rw [h3]
  rfl
theorem gcdZ_mul (x y z : Int) : In.gcdZ (x * z) (y * z) = In.gcdZ x y * z.natAbs := by
  unfold In.gcdZ
  rw [Int.natAbs_mul, Int.natAbs_mul, Nat.gcd_mul_right, Int.natCast_mul]
theorem cmpC_ge {x y : Int} (h : y ≤ x) : 0 ≤ In.cmpZ x y := by unfold In.cmpZ; split <;> (try split) <;> omega
set_option maxRecDepth 100000 in
set_option maxHeartbeats 4000000 in
theorem integerCommon_law (a b c : ByteArray) (w : World) (T : TabI w) (ha : a.size ≤ maxLen) (hb : b.size ≤ maxLen) (hc : c.size ≤ maxLen) :
    Calls Tryd.prog 7 #[.string a, .string b, .string c] w fun r w' => r = .returned (.bool true) ∧ Below w.heap.size w w' := by
  have HT := Lib.hid T
  have BB := Lib.hid (Below.refl w.heap.size w)
  have bx := madeZ_lt a 40
  have b_y := madeZ_lt b 40
  have bz := madeZ_lt c 40
  have M1 := Lib.hid (fun W => Made_any a 40 W (by decide) ha)
  have M2 := Lib.hid (fun W => Made_any b 40 W (by decide) hb)
  have M3 := Lib.hid (fun W => Made_any c 40 W (by decide) hc)
  have HS := Lib.hid sane_any
  generalize madeZ a 40 = x at *
  generalize madeZ b 40 = y at *
  generalize madeZ c 40 = z at *
  have fx := In.fit_of bx (by decide)
  have fy := In.fit_of b_y (by decide)
  have fz := In.fit_of bz (by decide)
  have G1 := Lib.hid (Gcd_t fx fy)
  have G2 := Lib.hid (Gcd_t fy fx)
  rw [gcdZ_comm] at G2
  have bg := gcdZ_lt bx b_y
  have fg := In.fit_of bg (by decide)
  have C1 := Lib.hid (Cmp_0 fg)
  have hc1 := cmpC_ge (gcdZ_pos x y)
  have hd1 : decide (In.cmpZ (In.gcdZ x y) 0 < 0) = false := by rw [decide_eq_false_iff_not]; omega
  generalize In.cmpZ (In.gcdZ x y) 0 = c1 at *
  have hx0 := zero_eq x
  have hy0 := zero_eq y
  have hz0 := zero_is
  have ho1 := one_is
  by_cases h0 : x = 0 ∧ y = 0
  · obtain ⟨rfl, rfl⟩ := h0
    rw [show In.gcdZ 0 0 = 0 by decide] at G1 G2 C1
    clear T bx b_y bz fx fy fz bg fg hx0 hy0 ho1
    generalize In.txt 0 = t0 at *
    generalize In.txt z = tz at *
    go_enter Tryd.func7, Tryd.ntmps7
    go_wp2_with fail
    with_reducible refine Calls.mono (HS.out _ HT.out) ?_
    rintro e w1 ⟨rfl, hb⟩
    replace HT := Lib.hid (HT.out.next hb)
    replace BB := Lib.hid (Below.andThen BB.out hb)
    clear hb
    go_wp2_with fail
    with_reducible refine Calls.mono (M1.out _) ?_
    rintro e m1 ⟨rfl, hb⟩
    replace HT := Lib.hid (HT.out.next hb)
    replace BB := Lib.hid (Below.andThen BB.out hb)
    clear hb
    go_wp2_with fail
    with_reducible refine Calls.mono (M2.out _) ?_
    rintro e m2 ⟨rfl, hb⟩
    replace HT := Lib.hid (HT.out.next hb)
    replace BB := Lib.hid (Below.andThen BB.out hb)
    clear hb
    go_wp2_with fail
    with_reducible refine Calls.mono (M3.out _) ?_
    rintro e m3 ⟨rfl, hb⟩
    replace HT := Lib.hid (HT.out.next hb)
    replace BB := Lib.hid (Below.andThen BB.out hb)
    clear hb
    go_wp2_with fail
    with_reducible refine Calls.mono (G1.out _ HT.out) ?_
    rintro e w2 ⟨rfl, hb⟩
    replace HT := Lib.hid (HT.out.next hb)
    replace BB := Lib.hid (Below.andThen BB.out hb)
    clear hb
    go_wp2_with fail
    with_reducible refine Calls.mono (G2.out _ HT.out) ?_
    rintro e w3 ⟨rfl, hb⟩
    replace HT := Lib.hid (HT.out.next hb)
    replace BB := Lib.hid (Below.andThen BB.out hb)
    clear hb
    go_wp2_with fail
    with_reducible refine Calls.mono (C1.out _) ?_
    rintro e w4 ⟨rfl, hb⟩
    replace HT := Lib.hid (HT.out.next hb)
    replace BB := Lib.hid (Below.andThen BB.out hb)
    clear hb
    go_wp2_with fail
    go_ret
    exact ⟨rfl, BB.out⟩
  · have gn := gcdZ_ne h0
    obtain ⟨e1, e2, e3⟩ := gcdZ_parts x y gn
    have D1 := Lib.hid (Div_t fx fg gn)
    have D2 := Lib.hid (Div_t fy fg gn)
    rw [e1] at D1
    rw [e2] at D2
    have fp := In.fit_of (In.abs_div (b := In.gcdZ x y) bx) (by decide)
    have fq := In.fit_of (In.abs_div (b := In.gcdZ x y) b_y) (by decide)
    have G3 := Lib.hid (Gcd_t fp fq)
    rw [e3] at G3
    have bxz := In.abs_mul bx bz
    have byz := In.abs_mul b_y bz
    have fxz := In.fit_of bxz (by decide)
    have fyz := In.fit_of byz (by decide)
    have P1 := Lib.hid (Mul_t fx fz fxz)
    have P2 := Lib.hid (Mul_t fy fz fyz)
    have G4 := Lib.hid (Gcd_t fxz fyz)
    rw [gcdZ_mul] at G4
    have fgz := In.fit_of (In.abs_mul bg bz) (by decide)
    have P3 := Lib.hid (Mul_t fg fz fgz)
    have C2 := Lib.hid (Cmp_0 fgz)
    have gp : 0 < In.gcdZ x y := by have := gcdZ_pos x y; omega
    have hb0 : ((In.txt x).toList == ([48] : List UInt8)) = true → ((In.txt y).toList == ([48] : List UInt8)) = false := by
      rw [hx0, hy0, decide_eq_true_eq, decide_eq_false_iff_not]
      exact fun h1 h2 => h0 ⟨h1, h2⟩
    have hcase : (((In.txt x).toList == ([48] : List UInt8)) = true ∧ ((In.txt y).toList == ([48] : List UInt8)) = false) ∨ ((In.txt x).toList == ([48] : List UInt8)) = false := by
      cases hh : (In.txt x).toList == ([48] : List UInt8) with
      | true => exact .inl ⟨rfl, hb0 hh⟩
      | false => exact .inr rfl
    clear hx0 hy0 hb0 h0
    rcases Int.lt_or_le z 0 with hz | hz
    · rw [show In.cmpZ (In.gcdZ x y * z) 0 = -1 from if_pos (Int.mul_neg_of_pos_of_neg gp hz)] at C2
      have S1 := Lib.hid (Sub_0 fgz)
      rw [show -(In.gcdZ x y * z) = In.gcdZ x y * z.natAbs by rw [show ((z.natAbs : Nat) : Int) = -z by omega, Int.mul_neg]] at S1
      clear T bx b_y bz fx fy fz bg fg gn e1 e2 e3 fp fq bxz byz fxz fyz fgz gp hz
      generalize In.txt (x / In.gcdZ x y) = s1 at *
      generalize In.txt (y / In.gcdZ x y) = s2 at *
      generalize In.txt (In.gcdZ x y * z.natAbs) = s3 at *
      generalize In.txt (In.gcdZ x y * z) = s4 at *
      generalize In.txt (In.gcdZ x y) = s5 at *
      generalize In.txt (x * z) = s6 at *
      generalize In.txt (y * z) = s7 at *
      generalize In.txt 0 = t0 at *
      generalize In.txt 1 = t1 at *
      generalize In.txt x = tx at *
      generalize In.txt y = ty at *
      generalize In.txt z = tz at *
      rcases hcase with ⟨hq1, hq2⟩ | hq1
      · go_enter Tryd.func7, Tryd.ntmps7
        go_wp2_with fail
        with_reducible refine Calls.mono (HS.out _ HT.out) ?_
        rintro e w1 ⟨rfl, hb⟩
        replace HT := Lib.hid (HT.out.next hb)
        replace BB := Lib.hid (Below.andThen BB.out hb)
        clear hb
        go_wp2_with fail
        with_reducible refine Calls.mono (M1.out _) ?_
        rintro e m1 ⟨rfl, hb⟩
        replace HT := Lib.hid (HT.out.next hb)
        replace BB := Lib.hid (Below.andThen BB.out hb)
        clear hb
        go_wp2_with fail
        with_reducible refine Calls.mono (M2.out _) ?_
        rintro e m2 ⟨rfl, hb⟩
        replace HT := Lib.hid (HT.out.next hb)
        replace BB := Lib.hid (Below.andThen BB.out hb)
        clear hb
        go_wp2_with fail
        with_reducible refine Calls.mono (M3.out _) ?_
        rintro e m3 ⟨rfl, hb⟩
        replace HT := Lib.hid (HT.out.next hb)
        replace BB := Lib.hid (Below.andThen BB.out hb)
        clear hb
        go_wp2_with fail
        with_reducible refine Calls.mono (G1.out _ HT.out) ?_
        rintro e w2 ⟨rfl, hb⟩
        replace HT := Lib.hid (HT.out.next hb)
        replace BB := Lib.hid (Below.andThen BB.out hb)
        clear hb
        go_wp2_with fail
        with_reducible refine Calls.mono (G2.out _ HT.out) ?_
        rintro e w3 ⟨rfl, hb⟩
        replace HT := Lib.hid (HT.out.next hb)
        replace BB := Lib.hid (Below.andThen BB.out hb)
        clear hb
        go_wp2_with fail
        with_reducible refine Calls.mono (C1.out _) ?_
        rintro e w4 ⟨rfl, hb⟩
        replace HT := Lib.hid (HT.out.next hb)
        replace BB := Lib.hid (Below.andThen BB.out hb)
        clear hb
        go_wp2_with fail
        with_reducible refine Calls.mono (D1.out _ HT.out) ?_
        rintro e w5 ⟨rfl, hb⟩
        replace HT := Lib.hid (HT.out.next hb)
        replace BB := Lib.hid (Below.andThen BB.out hb)
        clear hb
        go_wp2_with fail
        with_reducible refine Calls.mono (D2.out _ HT.out) ?_
        rintro e w6 ⟨rfl, hb⟩
        replace HT := Lib.hid (HT.out.next hb)
        replace BB := Lib.hid (Below.andThen BB.out hb)
        clear hb
        go_wp2_with fail
        with_reducible refine Calls.mono (G3.out _ HT.out) ?_
        rintro e w7 ⟨rfl, hb⟩
        replace HT := Lib.hid (HT.out.next hb)
        replace BB := Lib.hid (Below.andThen BB.out hb)
        clear hb
        go_wp2_with fail
        with_reducible refine Calls.mono (P1.out _ HT.out) ?_
        rintro e w8 ⟨rfl, hb⟩
        replace HT := Lib.hid (HT.out.next hb)
        replace BB := Lib.hid (Below.andThen BB.out hb)
        clear hb
        go_wp2_with fail
        with_reducible refine Calls.mono (P2.out _ HT.out) ?_
        rintro e w9 ⟨rfl, hb⟩
        replace HT := Lib.hid (HT.out.next hb)
        replace BB := Lib.hid (Below.andThen BB.out hb)
        clear hb
        go_wp2_with fail
        with_reducible refine Calls.mono (G4.out _ HT.out) ?_
        rintro e w10 ⟨rfl, hb⟩
        replace HT := Lib.hid (HT.out.next hb)
        replace BB := Lib.hid (Below.andThen BB.out hb)
        clear hb
        go_wp2_with fail
        with_reducible refine Calls.mono (P3.out _ HT.out) ?_
        rintro e w11 ⟨rfl, hb⟩
        replace HT := Lib.hid (HT.out.next hb)
        replace BB := Lib.hid (Below.andThen BB.out hb)
        clear hb
        go_wp2_with fail
        with_reducible refine Calls.mono (C2.out _) ?_
        rintro e w12 ⟨rfl, hb⟩
        replace HT := Lib.hid (HT.out.next hb)
        replace BB := Lib.hid (Below.andThen BB.out hb)
        clear hb
        go_wp2_with fail
        with_reducible refine Calls.mono (S1.out _ HT.out) ?_
        rintro e w13 ⟨rfl, hb⟩
        replace HT := Lib.hid (HT.out.next hb)
        replace BB := Lib.hid (Below.andThen BB.out hb)
        clear hb
        go_wp2_with fail
        go_ret
        exact ⟨rfl, BB.out⟩
      · go_enter Tryd.func7, Tryd.ntmps7
        go_wp2_with fail
        with_reducible refine Calls.mono (HS.out _ HT.out) ?_
        rintro e w1 ⟨rfl, hb⟩
        replace HT := Lib.hid (HT.out.next hb)
        replace BB := Lib.hid (Below.andThen BB.out hb)
        clear hb
        go_wp2_with fail
        with_reducible refine Calls.mono (M1.out _) ?_
        rintro e m1 ⟨rfl, hb⟩
        replace HT := Lib.hid (HT.out.next hb)
        replace BB := Lib.hid (Below.andThen BB.out hb)
        clear hb
        go_wp2_with fail
        with_reducible refine Calls.mono (M2.out _) ?_
        rintro e m2 ⟨rfl, hb⟩
        replace HT := Lib.hid (HT.out.next hb)
        replace BB := Lib.hid (Below.andThen BB.out hb)
        clear hb
        go_wp2_with fail
        with_reducible refine Calls.mono (M3.out _) ?_
        rintro e m3 ⟨rfl, hb⟩
        replace HT := Lib.hid (HT.out.next hb)
        replace BB := Lib.hid (Below.andThen BB.out hb)
        clear hb
        go_wp2_with fail
        with_reducible refine Calls.mono (G1.out _ HT.out) ?_
        rintro e w2 ⟨rfl, hb⟩
        replace HT := Lib.hid (HT.out.next hb)
        replace BB := Lib.hid (Below.andThen BB.out hb)
        clear hb
        go_wp2_with fail
        with_reducible refine Calls.mono (G2.out _ HT.out) ?_
        rintro e w3 ⟨rfl, hb⟩
        replace HT := Lib.hid (HT.out.next hb)
        replace BB := Lib.hid (Below.andThen BB.out hb)
        clear hb
        go_wp2_with fail
        with_reducible refine Calls.mono (C1.out _) ?_
        rintro e w4 ⟨rfl, hb⟩
        replace HT := Lib.hid (HT.out.next hb)
        replace BB := Lib.hid (Below.andThen BB.out hb)
        clear hb
        go_wp2_with fail
        with_reducible refine Calls.mono (D1.out _ HT.out) ?_
        rintro e w5 ⟨rfl, hb⟩
        replace HT := Lib.hid (HT.out.next hb)
        replace BB := Lib.hid (Below.andThen BB.out hb)
        clear hb
        go_wp2_with fail
        with_reducible refine Calls.mono (D2.out _ HT.out) ?_
        rintro e w6 ⟨rfl, hb⟩
        replace HT := Lib.hid (HT.out.next hb)
        replace BB := Lib.hid (Below.andThen BB.out hb)
        clear hb
        go_wp2_with fail
        with_reducible refine Calls.mono (G3.out _ HT.out) ?_
        rintro e w7 ⟨rfl, hb⟩
        replace HT := Lib.hid (HT.out.next hb)
        replace BB := Lib.hid (Below.andThen BB.out hb)
        clear hb
        go_wp2_with fail
        with_reducible refine Calls.mono (P1.out _ HT.out) ?_
        rintro e w8 ⟨rfl, hb⟩
        replace HT := Lib.hid (HT.out.next hb)
        replace BB := Lib.hid (Below.andThen BB.out hb)
        clear hb
        go_wp2_with fail
        with_reducible refine Calls.mono (P2.out _ HT.out) ?_
        rintro e w9 ⟨rfl, hb⟩
        replace HT := Lib.hid (HT.out.next hb)
        replace BB := Lib.hid (Below.andThen BB.out hb)
        clear hb
        go_wp2_with fail
        with_reducible refine Calls.mono (G4.out _ HT.out) ?_
        rintro e w10 ⟨rfl, hb⟩
        replace HT := Lib.hid (HT.out.next hb)
        replace BB := Lib.hid (Below.andThen BB.out hb)
        clear hb
        go_wp2_with fail
        with_reducible refine Calls.mono (P3.out _ HT.out) ?_
        rintro e w11 ⟨rfl, hb⟩
        replace HT := Lib.hid (HT.out.next hb)
        replace BB := Lib.hid (Below.andThen BB.out hb)
        clear hb
        go_wp2_with fail
        with_reducible refine Calls.mono (C2.out _) ?_
        rintro e w12 ⟨rfl, hb⟩
        replace HT := Lib.hid (HT.out.next hb)
        replace BB := Lib.hid (Below.andThen BB.out hb)
        clear hb
        go_wp2_with fail
        with_reducible refine Calls.mono (S1.out _ HT.out) ?_
        rintro e w13 ⟨rfl, hb⟩
        replace HT := Lib.hid (HT.out.next hb)
        replace BB := Lib.hid (Below.andThen BB.out hb)
        clear hb
        go_wp2_with fail
        go_ret
        exact ⟨rfl, BB.out⟩
    · have hc2 := cmpC_ge (Int.mul_nonneg (Int.le_of_lt gp) hz)
      have hd2 : decide (In.cmpZ (In.gcdZ x y * z) 0 < 0) = false := by rw [decide_eq_false_iff_not]; omega
      generalize In.cmpZ (In.gcdZ x y * z) 0 = c2 at *
      rw [Int.natAbs_of_nonneg hz] at G4
      clear T bx b_y bz fx fy fz bg fg gn e1 e2 e3 fp fq bxz byz fxz fyz fgz gp hz
      generalize In.txt (x / In.gcdZ x y) = s1 at *
      generalize In.txt (y / In.gcdZ x y) = s2 at *
      generalize In.txt (In.gcdZ x y * z) = s4 at *
      generalize In.txt (In.gcdZ x y) = s5 at *
      generalize In.txt (x * z) = s6 at *
      generalize In.txt (y * z) = s7 at *
      generalize In.txt 0 = t0 at *
      generalize In.txt 1 = t1 at *
      generalize In.txt x = tx at *
      generalize In.txt y = ty at *
      generalize In.txt z = tz at *
      rcases hcase with ⟨hq1, hq2⟩ | hq1
      · go_enter Tryd.func7, Tryd.ntmps7
        go_wp2_with fail
        with_reducible refine Calls.mono (HS.out _ HT.out) ?_
        rintro e w1 ⟨rfl, hb⟩
        replace HT := Lib.hid (HT.out.next hb)
        replace BB := Lib.hid (Below.andThen BB.out hb)
        clear hb
        go_wp2_with fail
        with_reducible refine Calls.mono (M1.out _) ?_
        rintro e m1 ⟨rfl, hb⟩
        replace HT := Lib.hid (HT.out.next hb)
        replace BB := Lib.hid (Below.andThen BB.out hb)
        clear hb
        go_wp2_with fail
        with_reducible refine Calls.mono (M2.out _) ?_
        rintro e m2 ⟨rfl, hb⟩
        replace HT := Lib.hid (HT.out.next hb)
        replace BB := Lib.hid (Below.andThen BB.out hb)
        clear hb
        go_wp2_with fail
        with_reducible refine Calls.mono (M3.out _) ?_
        rintro e m3 ⟨rfl, hb⟩
        replace HT := Lib.hid (HT.out.next hb)
        replace BB := Lib.hid (Below.andThen BB.out hb)
        clear hb
        go_wp2_with fail
        with_reducible refine Calls.mono (G1.out _ HT.out) ?_
        rintro e w2 ⟨rfl, hb⟩
        replace HT := Lib.hid (HT.out.next hb)
        replace BB := Lib.hid (Below.andThen BB.out hb)
        clear hb
        go_wp2_with fail
        with_reducible refine Calls.mono (G2.out _ HT.out) ?_
        rintro e w3 ⟨rfl, hb⟩
        replace HT := Lib.hid (HT.out.next hb)
        replace BB := Lib.hid (Below.andThen BB.out hb)
        clear hb
        go_wp2_with fail
        with_reducible refine Calls.mono (C1.out _) ?_
        rintro e w4 ⟨rfl, hb⟩
        replace HT := Lib.hid (HT.out.next hb)
        replace BB := Lib.hid (Below.andThen BB.out hb)
        clear hb
        go_wp2_with fail
        with_reducible refine Calls.mono (D1.out _ HT.out) ?_
        rintro e w5 ⟨rfl, hb⟩
        replace HT := Lib.hid (HT.out.next hb)
        replace BB := Lib.hid (Below.andThen BB.out hb)
        clear hb
        go_wp2_with fail
        with_reducible refine Calls.mono (D2.out _ HT.out) ?_
        rintro e w6 ⟨rfl, hb⟩
        replace HT := Lib.hid (HT.out.next hb)
        replace BB := Lib.hid (Below.andThen BB.out hb)
        clear hb
        go_wp2_with fail
        with_reducible refine Calls.mono (G3.out _ HT.out) ?_
        rintro e w7 ⟨rfl, hb⟩
        replace HT := Lib.hid (HT.out.next hb)
        replace BB := Lib.hid (Below.andThen BB.out hb)
        clear hb
        go_wp2_with fail
        with_reducible refine Calls.mono (P1.out _ HT.out) ?_
        rintro e w8 ⟨rfl, hb⟩
        replace HT := Lib.hid (HT.out.next hb)
        replace BB := Lib.hid (Below.andThen BB.out hb)
        clear hb
        go_wp2_with fail
        with_reducible refine Calls.mono (P2.out _ HT.out) ?_
        rintro e w9 ⟨rfl, hb⟩
        replace HT := Lib.hid (HT.out.next hb)
        replace BB := Lib.hid (Below.andThen BB.out hb)
        clear hb
        go_wp2_with fail
        with_reducible refine Calls.mono (G4.out _ HT.out) ?_
        rintro e w10 ⟨rfl, hb⟩
        replace HT := Lib.hid (HT.out.next hb)
        replace BB := Lib.hid (Below.andThen BB.out hb)
        clear hb
        go_wp2_with fail
        with_reducible refine Calls.mono (P3.out _ HT.out) ?_
        rintro e w11 ⟨rfl, hb⟩
        replace HT := Lib.hid (HT.out.next hb)
        replace BB := Lib.hid (Below.andThen BB.out hb)
        clear hb
        go_wp2_with fail
        with_reducible refine Calls.mono (C2.out _) ?_
        rintro e w12 ⟨rfl, hb⟩
        replace HT := Lib.hid (HT.out.next hb)
        replace BB := Lib.hid (Below.andThen BB.out hb)
        clear hb
        go_wp2_with fail
        go_ret
        exact ⟨rfl, BB.out⟩
      · go_enter Tryd.func7, Tryd.ntmps7
        go_wp2_with fail
        with_reducible refine Calls.mono (HS.out _ HT.out) ?_
        rintro e w1 ⟨rfl, hb⟩
        replace HT := Lib.hid (HT.out.next hb)
        replace BB := Lib.hid (Below.andThen BB.out hb)
        clear hb
        go_wp2_with fail
        with_reducible refine Calls.mono (M1.out _) ?_
        rintro e m1 ⟨rfl, hb⟩
        replace HT := Lib.hid (HT.out.next hb)
        replace BB := Lib.hid (Below.andThen BB.out hb)
        clear hb
        go_wp2_with fail
        with_reducible refine Calls.mono (M2.out _) ?_
        rintro e m2 ⟨rfl, hb⟩
        replace HT := Lib.hid (HT.out.next hb)
        replace BB := Lib.hid (Below.andThen BB.out hb)
        clear hb
        go_wp2_with fail
        with_reducible refine Calls.mono (M3.out _) ?_
        rintro e m3 ⟨rfl, hb⟩
        replace HT := Lib.hid (HT.out.next hb)
        replace BB := Lib.hid (Below.andThen BB.out hb)
        clear hb
        go_wp2_with fail
        with_reducible refine Calls.mono (G1.out _ HT.out) ?_
        rintro e w2 ⟨rfl, hb⟩
        replace HT := Lib.hid (HT.out.next hb)
        replace BB := Lib.hid (Below.andThen BB.out hb)
        clear hb
        go_wp2_with fail
        with_reducible refine Calls.mono (G2.out _ HT.out) ?_
        rintro e w3 ⟨rfl, hb⟩
        replace HT := Lib.hid (HT.out.next hb)
        replace BB := Lib.hid (Below.andThen BB.out hb)
        clear hb
        go_wp2_with fail
        with_reducible refine Calls.mono (C1.out _) ?_
        rintro e w4 ⟨rfl, hb⟩
        replace HT := Lib.hid (HT.out.next hb)
        replace BB := Lib.hid (Below.andThen BB.out hb)
        clear hb
        go_wp2_with fail
        with_reducible refine Calls.mono (D1.out _ HT.out) ?_
        rintro e w5 ⟨rfl, hb⟩
        replace HT := Lib.hid (HT.out.next hb)
        replace BB := Lib.hid (Below.andThen BB.out hb)
        clear hb
        go_wp2_with fail
        with_reducible refine Calls.mono (D2.out _ HT.out) ?_
        rintro e w6 ⟨rfl, hb⟩
        replace HT := Lib.hid (HT.out.next hb)
        replace BB := Lib.hid (Below.andThen BB.out hb)
        clear hb
        go_wp2_with fail
        with_reducible refine Calls.mono (G3.out _ HT.out) ?_
        rintro e w7 ⟨rfl, hb⟩
        replace HT := Lib.hid (HT.out.next hb)
        replace BB := Lib.hid (Below.andThen BB.out hb)
        clear hb
        go_wp2_with fail
        with_reducible refine Calls.mono (P1.out _ HT.out) ?_
        rintro e w8 ⟨rfl, hb⟩
        replace HT := Lib.hid (HT.out.next hb)
        replace BB := Lib.hid (Below.andThen BB.out hb)
        clear hb
        go_wp2_with fail
        with_reducible refine Calls.mono (P2.out _ HT.out) ?_
        rintro e w9 ⟨rfl, hb⟩
        replace HT := Lib.hid (HT.out.next hb)
        replace BB := Lib.hid (Below.andThen BB.out hb)
        clear hb
        go_wp2_with fail
        with_reducible refine Calls.mono (G4.out _ HT.out) ?_
        rintro e w10 ⟨rfl, hb⟩
        replace HT := Lib.hid (HT.out.next hb)
        replace BB := Lib.hid (Below.andThen BB.out hb)
        clear hb
        go_wp2_with fail
        with_reducible refine Calls.mono (P3.out _ HT.out) ?_
        rintro e w11 ⟨rfl, hb⟩
        replace HT := Lib.hid (HT.out.next hb)
        replace BB := Lib.hid (Below.andThen BB.out hb)
        clear hb
        go_wp2_with fail
        with_reducible refine Calls.mono (C2.out _) ?_
        rintro e w12 ⟨rfl, hb⟩
        replace HT := Lib.hid (HT.out.next hb)
        replace BB := Lib.hid (Below.andThen BB.out hb)
        clear hb
        go_wp2_with fail
        go_ret
        exact ⟨rfl, BB.out⟩
namespace integerCommon
set_option maxRecDepth 100000 in
theorem contract (H : Type) (enc : TypeId × Value → H) (W : World) (base : Nat) (args : Array Value) (ds gs : List (DataW H)) (before : List MemPlace)
    (hval : ∀ (j : Nat) t v, Tryd.f7.params[j]? = some t → args[j]? = some v → Value.okWide Tryd.prog W .any base t v)
    (hW : DataW.Whole enc Tryd.prog Tryd.f7.params.toList Rows.integerCommonSpec.vars false W args.toList ds gs before) (hL : laidMetH Tryd.prog Rows.integerCommonRow.laid W) :
    Calls Tryd.prog 7 args W fun e W' => ∃ v, e = .returned v ∧ Rows.integerCommonSpec.post enc Tryd.prog Tryd.f7 false true false false W args v W' := by
  have hW' := hW
  obtain ⟨p, q, hA0, hV, rfl, hfz, hnd⟩ := hW
  have hA : DataW.TrodAll enc Tryd.prog W 0 (fun _ => true) true Tryd.f7.params.toList args.toList ds p := hA0
  rw [Tryd.params7] at hA hval
  obtain ⟨v0, vs0, d0, ds0, p0, q0, hargs, rfl, rfl, h0, r0⟩ := trodAll_cons hA
  obtain ⟨v1, vs1, d1, ds1, p1, q1, rfl, rfl, rfl, h1, r1⟩ := trodAll_cons r0
  obtain ⟨v2, vs2, d2, ds2, p2, q2, rfl, rfl, rfl, h2, r2⟩ := trodAll_cons r1
  obtain ⟨rfl, rfl, rfl⟩ := trodAll_nil r2
  obtain rfl : args = #[v0, v1, v2] := by cases args; simp_all
  obtain ⟨a0, rfl, rfl, rfl, k0⟩ := Go.ChangeMaps.open_string Tryd.underlying9 (hval 0 _ _ rfl rfl) h0
  obtain ⟨a1, rfl, rfl, rfl, k1⟩ := Go.ChangeMaps.open_string Tryd.underlying9 (hval 1 _ _ rfl rfl) h1
  obtain ⟨a2, rfl, rfl, rfl, k2⟩ := Go.ChangeMaps.open_string Tryd.underlying9 (hval 2 _ _ rfl rfl) h2
  refine (integerCommon_law a0 a1 a2 W (tabI hL) k0 k1 k2).mono fun e W' ⟨he, hb⟩ => ?_
  subst he
  obtain ⟨rfl, _⟩ := trodVars_none hV
  exact ⟨_, rfl, law_post laidOut (by kernel_rfl) rfl (by kernel_rfl) Tryd.underlying4 hW' rfl hb⟩

noncomputable def laidWorld (os : Os) : World := World.laidAll Tryd.prog os Rows.integerCommonRow.laid
def args0 : Array Value := #[.string ⟨#[]⟩, .string ⟨#[]⟩, .string ⟨#[]⟩]
theorem laid_met (os : Os) : laidMet Tryd.prog Rows.integerCommonRow.laid ((laidWorld os).forCall (fun _ _ => 0) ⟨#[], args0, []⟩).memory :=
  laidMet_laidAll _ (by kernel_rfl) (by kernel_rfl)
theorem reads (os : Os) {H : Type} (enc : TypeId × Value → H) : ∃ places, DataW.whole enc Tryd.prog ((laidWorld os).forCall (fun _ _ => 0) ⟨#[], args0, []⟩).memory Tryd.f7.params.toList Rows.integerCommonSpec.vars false args0.toList 8 = some ([.lit (.string []), .lit (.string []), .lit (.string [])], [], places) :=
  ⟨[], by kernel_rfl⟩

set_option maxRecDepth 100000 in
theorem lifted (os : Os) (started : os.Started) (H : Type) (enc : TypeId × Value → H) (F : Stop.Interp) :
    ReturnsInHanded {} Tryd.checked os 7 .any ((OpenSpec.ofChange Rows.integerCommonSpec).preRow enc Tryd.prog Tryd.f7 Rows.integerCommonRow.domain false Rows.integerCommonRow.laid) (((OpenSpec.ofChange Rows.integerCommonSpec).at F).post enc Tryd.prog Tryd.f7 false true false false) := by
  obtain ⟨places, hx⟩ := reads os enc
  refine returnsInHanded_of_row (C := Tryd.checked) (s := OpenSpec.ofChange Rows.integerCommonSpec) own started (by kernel_rfl) Tryd.func7
    (witness_row_at (enc := enc) (C := Tryd.checked) false (laidWorld os) args0 (World.laidAll_os _ _ _) (by kernel_rfl) (by kernel_rfl) (by kernel_rfl)
      (OpenSpec.preRow_of_cond 8 hx (by kernel_rfl) (fun k hk => by cases hk) (by kernel_rfl) (laid_met os))) ?_
  intro W base args ds gs before hval hW _ _ _ hL _ _
  exact contract H enc W base args ds gs before hval hW hL

theorem said : Rows.IntegerCommonSaid :=
  OpenClaim.holds_of_cond 7 Tryd.f7 rfl rfl rfl rfl rfl rfl rfl ⟨rfl, rfl, rfl, rfl, rfl⟩ rfl rfl rfl rfl rfl (by kernel_rfl) Tryd.func7 (by kernel_rfl)
    (of_decide_eq_true (by kernel_rfl)) (by unfold Func.isWrapper; first | (rw [if_pos (by decide +kernel)]; kernel_rfl) | (rw [if_neg (by decide +kernel)]; exact ⟨rfl, rfl⟩))
    (fun os started H enc _ F => by rw [OpenClaim.pre_eq_preRow]; exact lifted os started H enc F)

theorem plain (f : FuncId) (fn : Func) (hf : Tryd.pinned.checked.prog.funcNamed "newswire/newswirelaw03.IntegerCommon" = some f) (hfn : Tryd.pinned.checked.prog.funcs[f]? = some fn) :
    true = Tryd.pinned.checked.prog.looks [] ∧ ∀ (j : Nat) t, fn.params[j]? = some t → Tryd.pinned.checked.prog.wantsStandIn t = false := by
  obtain rfl : f = 7 := Option.some.inj ((show Tryd.prog.funcNamed "newswire/newswirelaw03.IntegerCommon" = some 7 by kernel_rfl).symm.trans hf) |>.symm
  obtain rfl : fn = Tryd.f7 := (Option.some.inj (Tryd.func7.symm.trans hfn)).symm
  refine ⟨by kernel_rfl, fun j t ht => ?_⟩
  have all : (Tryd.f7.params.toList.all fun t => Tryd.prog.wantsStandIn t == false) = true := by kernel_rfl
  have := List.all_eq_true.1 all t (by rw [← Array.mem_def]; exact Array.mem_of_getElem? ht)
  exact (show Tryd.prog.wantsStandIn t = false by simpa using this)

/-- The statement. -/
theorem card : Rows.IntegerCommonCardSaid :=
  Claim7.holds_tied_plain_at .later [] _ _ _ _ said (fun _ h => by cases h) (by kernel_rfl) (fun _ h => by cases h) integerCommon_row_tie rfl ⟨rfl, rfl⟩ (by kernel_rfl) rfl plain (by kernel_rfl)
end integerCommon
end Go.Proofs.YtjhnfejlkljkjaaDoor
