/- Between which groups the next group of a quotient is. -/
import Derived.Test.YtjhnfejlkljkjaaGreatDoorIntH
namespace Go.Proofs.YtjhnfejlkljkjaaGreatDoor
open Go.RowKit

/-- the numbers that bounds divides -/
theorem bounds_nums {R b n : Nat} (hb : 0 < b) (hR : R < b * 10000) (hn : (In.gs b).length = n) :
    0 < dig b ((n : Int) - 1) * 10000 + dig b ((n : Int) - 2) ∧
    ((dig R n * 10000 + dig R ((n : Int) - 1)) * 10000 + dig R ((n : Int) - 2)) / (dig b ((n : Int) - 1) * 10000 + dig b ((n : Int) - 2) + 1) ≤ R / b ∧
    R / b ≤ ((dig R n * 10000 + dig R ((n : Int) - 1)) * 10000 + dig R ((n : Int) - 2)) / (dig b ((n : Int) - 1) * 10000 + dig b ((n : Int) - 2)) := by
  have hbl := In.gs_lt_pow b
  rw [hn] at hbl
  match n, hn with
  | 0, hn =>
    have := In.gs_nil.1 hn
    omega
  | 1, hn =>
    have e1 : ((1 : Nat) : Int) - 1 = ((0 : Nat) : Int) := rfl
    have e2 : dig R (((1 : Nat) : Int) - 2) = 0 := by unfold dig; rw [if_neg (by omega)]
    have e3 : dig b (((1 : Nat) : Int) - 2) = 0 := by unfold dig; rw [if_neg (by omega)]
    rw [e1, e2, e3, dig_nat, dig_nat, dig_nat, Nat.pow_zero, Nat.pow_one, Nat.div_one, Nat.div_one]
    rw [Nat.pow_one] at hbl
    have e4 : b % 10000 = b := Nat.mod_eq_of_lt hbl
    have e5 : R / 10000 % 10000 * 10000 + R % 10000 = R := by
      have : R / 10000 < 10000 := by omega
      omega
    rw [e4, e5, Nat.add_zero, Nat.add_zero]
    obtain ⟨h1, h2⟩ := In.quo_bounds_one (R := R) hb
    exact ⟨by omega, h1, h2⟩
  | k + 2, hn =>
    have e1 : ((k + 2 : Nat) : Int) - 1 = ((k + 1 : Nat) : Int) := by omega
    have e2 : ((k + 2 : Nat) : Int) - 2 = (k : Int) := by omega
    obtain ⟨h1, h2⟩ := In.gs_two hn
    have hR3 : R < 10000 ^ (k + 3) := by
      rw [Nat.pow_succ]
      have : b * 10000 < 10000 ^ (k + 2) * 10000 := Nat.mul_lt_mul_of_pos_right hbl (by decide)
      exact Nat.lt_trans hR this
    have h3 := In.gs_three hR3
    rw [e1, e2, dig_nat, dig_nat, dig_nat, dig_nat, dig_nat, h1, h3]
    have hp : 0 < b / 10000 ^ k := by
      have := In.div_up b 10000 k
      omega
    exact ⟨hp, In.quo_bounds hb hp⟩

set_option maxRecDepth 100000 in
set_option maxHeartbeats 2000000 in
theorem bounds_any (u v : Value) (R b : Nat) (w : World) (hu : NSl w u R) (hv : NSl w v b) (hb : 0 < b) (hR : R < b * 10000) (lb : (In.gs b).length ≤ 1000) :
    Calls Tryz.prog 61 #[u, v] w fun e w' => ∃ lo hi : Nat, e = .returned (.tuple #[.int .i64 lo, .int .i64 hi]) ∧ lo ≤ R / b ∧ R / b ≤ hi ∧ hi ≤ 9999 ∧ Below w.heap.size w w' := by
  obtain ⟨o, c, rfl, a1, a2, a3, a4⟩ := hu.ex
  obtain ⟨o', c', rfl, b1, b2, b3, b4⟩ := hv.ex
  obtain ⟨LR, hLR⟩ : ∃ L, (In.gs R).length = L := ⟨_, rfl⟩
  obtain ⟨n, hn⟩ : ∃ L, (In.gs b).length = L := ⟨_, rfl⟩
  obtain ⟨hV0, hlo, hhi⟩ := bounds_nums hb hR hn
  have hq : R / b ≤ 9999 := by
    have : R / b < 10000 := (Nat.div_lt_iff_lt_mul hb).2 (by rw [Nat.mul_comm]; exact hR)
    omega
  rw [hLR] at a1 ⊢
  rw [hn] at b1 lb ⊢
  have hn1 : 1 ≤ n := by
    rcases Nat.eq_zero_or_pos n with h | h
    · rw [h] at hn
      have := In.gs_nil.1 hn
      omega
    · exact h
  have g2 := dig_lt R n
  have g1 := dig_lt R ((n : Int) - 1)
  have g0 := dig_lt R ((n : Int) - 2)
  have f1 := dig_lt b ((n : Int) - 1)
  have f0 := dig_lt b ((n : Int) - 2)
  have hx := In.gs_at (n := b) (i := n - 1) (by rw [hn]; omega)
  rw [← dig_nat, show ((n - 1 : Nat) : Int) = (n : Int) - 1 by omega] at hx
  have C2 := Lib.hid (fun W (h : LSl W o (In.gs R)) => group_any o LR c R (n : Int) W hLR h)
  have C1 := Lib.hid (fun W (h : LSl W o (In.gs R)) => group_any o LR c R ((n : Int) - 1) W hLR h)
  have C0 := Lib.hid (fun W (h : LSl W o (In.gs R)) => group_any o LR c R ((n : Int) - 2) W hLR h)
  have K0 := Lib.hid (fun (k : Kin w) (h : LSl k.it o' (In.gs b)) => group_any o' n c' b ((n : Int) - 2) k.it hn h)
  have HA := Lib.hid a4
  have HB := Lib.hid b4
  generalize dig R n = x2 at *
  generalize dig R ((n : Int) - 1) = x1 at *
  generalize dig R ((n : Int) - 2) = x0 at *
  generalize dig b ((n : Int) - 1) = y1 at *
  generalize dig b ((n : Int) - 2) = y0 at *
  rcases b4 with h | ⟨p, off, rfl, hp, hcell⟩
  · rw [h] at hx; simp at hx
  have c1 := hcell (n - 1) y1 hx
  have c2 : w.cell? ⟨p, off + ((n : Int) - 1).toNat, none⟩ = some (natV y1) := by rw [show ((n : Int) - 1).toNat = n - 1 by omega]; exact c1
  have i1 : (0 : Int) ≤ (n : Int) - 1 := by omega
  have i2 : (n : Int) - 1 < (n : Int) := by omega
  have i3 : ¬ (n : Int) - 1 < 0 := by omega
  have HQ := Lib.hid (And.intro hlo (And.intro hhi hq))
  have HV0 := Lib.hid hV0
  clear a4 hu hv hcell hx hn hLR hlo hhi hq hb hR hV0
  go_enter Tryz.func61, Tryz.ntmps61
  go_upto_region 3 with (go_at_call 71; first | (with_reducible refine Calls.mono (C2.out _ HA.out) ?_; rintro e w' ⟨rfl, rfl⟩) | (with_reducible refine Calls.mono (C1.out _ HA.out) ?_; rintro e w' ⟨rfl, rfl⟩) | (with_reducible refine Calls.mono (C0.out _ HA.out) ?_; rintro e w' ⟨rfl, rfl⟩))
  refine wp_region_kin (by kernel_rfl) (by kernel_rfl) w.heap.size 0 (by simp) (fun hk => ?_)
  repeat (go_big_quiet_step (first | (go_at_call 71; with_reducible exact Calls.kin_same (K0.out _ (HB.out.next (Kin.below _))))))
  refine wpQuiet_nil ?_
  clear hk
  intro W2 hb
  have HBW := Lib.hid hb
  obtain ⟨D, hD⟩ : ∃ D, (x2 * 10000 + x1) * 10000 + x0 = D := ⟨_, rfl⟩
  obtain ⟨V, hV⟩ : ∃ V, y1 * 10000 + y0 = V := ⟨_, rfl⟩
  have hDI : ((x2 : Int) * 10000 + x1) * 10000 + x0 = (D : Int) := by omega
  have hVI : (y1 : Int) * 10000 + y0 = (V : Int) := by omega
  have hD9 : D ≤ 1000000000000 := by omega
  have hV9 : V ≤ 100000000 := by omega
  rw [hD, hV] at HQ
  rw [hV] at HV0
  rw [hDI, hVI]
  have hV0 := HV0.out
  have v1 : ¬ (V : Int) = 0 := by omega
  have v2 : ¬ (V : Int) + 1 = 0 := by omega
  clear hD hV hDI hVI g0 g1 g2 f0 f1 c1 c2 hb i1 i2 i3 C0 C1 C2 K0
  go_upto_region 4 with (fail)
  refine wp_region_kin (by kernel_rfl) (by kernel_rfl) W2.heap.size 0 (by simp) (fun hk => ?_)
  repeat (go_big_quiet_step (fail))
  refine wpQuiet_nil ?_
  clear hk
  intro W3 hb
  have HB3 := Lib.hid (Below.andThen HBW.out hb)
  clear hb
  go_wp2_with fail
  go_ret2
  obtain ⟨h1, h2, h3⟩ := HQ.out
  refine ⟨D / (V + 1), min 9999 (D / V), ?_, h1, by omega, by omega, HB3.out⟩
  show Ending.returned (.tuple #[.int .i64 _, .int .i64 _]) = _
  have e1 : (D : Int) / ((V : Int) + 1) = ((D / (V + 1) : Nat) : Int) := by
    rw [Int.natCast_ediv]
    rfl
  have e2 : (D : Int) / (V : Int) = ((D / V : Nat) : Int) := by rw [Int.natCast_ediv]
  have l1 : D / (V + 1) ≤ D := Nat.div_le_self _ _
  have l2 : D / V ≤ D := Nat.div_le_self _ _
  rw [e1, e2]
  generalize D / (V + 1) = q1 at *
  generalize D / V = q2 at *
  have e3 : min (9999 : Int) (q2 : Int) = ((min 9999 q2 : Nat) : Int) := by omega
  have w1 : wrap64 (q1 : Int) = (q1 : Int) := by unfold wrap64; omega
  have w2 : wrap64 (q2 : Int) = (q2 : Int) := by clear w1; unfold wrap64; omega
  rw [w1, w2, e3]
end Go.Proofs.YtjhnfejlkljkjaaGreatDoor
