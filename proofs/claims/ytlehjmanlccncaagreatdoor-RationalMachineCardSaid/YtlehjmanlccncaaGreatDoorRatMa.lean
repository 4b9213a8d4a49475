/- For every input, RationalMachine returns true; the listed tables hold what the program's text lays. -/
import Derived.Test.YtlehjmanlccncaaGreatDoorRatFA
import Derived.Test.YtlehjmanlccncaaGreatDoorIntGJ
set_option linter.unusedVariables false
set_option linter.unusedSimpArgs false
namespace Go.Proofs.YtlehjmanlccncaaGreatDoor
open Go.RowKit Go.ChangeShapes Go.WideShapes Go.ChangeAt

theorem mul_abs {x y : Int} {A B : Nat} (hx : x.natAbs ≤ A) (hy : y.natAbs ≤ B) : (x * y).natAbs ≤ A * B := by
  rw [Int.natAbs_mul]
  exact Nat.mul_le_mul hx hy
/-- what one of the four results is -/
theorem mach_one {X Y W0 W1 : Int} {fits : Prop} [Decidable fits] (hf : fits) (hY : Y ≠ 0) (hW : W1 ≠ 0) (hx : X.natAbs ≤ 1800000000) (hy : Y.natAbs ≤ 900000000) (hw0 : W0.natAbs ≤ 1800000000) (hw1 : W1.natAbs ≤ 900000000) (e : Rat.divInt X Y = Rat.divInt W0 W1) :
    ∃ u v z : Int, Ra.redO fits X Y = some (u, v) ∧ Ra.Ok (u, v) ∧ u.natAbs ≤ 1800000000 ∧ 1 ≤ v ∧ v ≤ 900000000 ∧ u * W1 = z ∧ W0 * v = z ∧ z.natAbs ≤ 1620000000000000000 := by
  have hl := Ra.red_le (x := X) (y := Y) hY
  have hlow := (Ra.red_low (x := X) hY).1
  have h1 : (Ra.redN X Y).natAbs ≤ 1800000000 := Nat.le_trans hl.1 hx
  have h2 : (Ra.redD X Y).natAbs ≤ 900000000 := Nat.le_trans hl.2 hy
  have h3 : 0 < Ra.redD X Y := hlow.1
  have e2 : Rat.divInt (Ra.redN X Y) (Ra.redD X Y) = Rat.divInt X Y := Ra.mk_qv hY
  rw [e] at e2
  have e3 := (Rat.divInt_eq_divInt_iff (by omega) hW).1 e2
  refine ⟨Ra.redN X Y, Ra.redD X Y, Ra.redN X Y * W1, Ra.redO_is hf hY, ⟨hlow, In.fit_of (k := 10) (by omega) (by decide), In.fit_of (k := 10) (by omega) (by decide)⟩, h1, by omega, by omega, rfl, ?_, ?_⟩
  · rw [e3]
  · exact Nat.le_trans (mul_abs h1 hw1) (by decide)
theorem toInt_t {u : Int} (h : u.natAbs ≤ 1800000000) (W : World) : Calls Tryz.prog 37 #[.string (In.txt u)] W fun e w' => e = .returned (.tuple #[.int .i64 u, .int .i64 0]) ∧ Below W.heap.size W w' := by
  have f : In.Fit u := In.fit_of (k := 10) (by omega) (by decide)
  have k := rToInt_any (In.txt u) W (txt_le f)
  rw [In.toS_some (In.num_fit f), if_pos (by omega)] at k
  exact k
theorem of_small {n d : Int} (hn : n.natAbs ≤ 30000) (hd : 1 ≤ d ∧ d ≤ 30000) : ∃ a : Int × Int, Ra.redO True n d = some a ∧ Ra.Ok a ∧ a.1.natAbs ≤ 30000 ∧ a.2.natAbs ≤ 30000 ∧ Ra.qv a = Rat.divInt n d ∧ (a.1 = 0 ↔ n = 0) := by
  have h0 : d ≠ 0 := by omega
  have hl := Ra.red_le (x := n) (y := d) h0
  have hok : Ra.Ok (Ra.mkR n d) := Ra.mk_ok h0 (Fit_int (by omega)) (Fit_int (by omega))
  refine ⟨Ra.mkR n d, Ra.redO_is trivial h0, hok, Nat.le_trans hl.1 hn, Nat.le_trans hl.2 (by omega), Ra.mk_qv h0, ?_⟩
  rw [← Ra.qv_zero hok, Ra.mk_qv h0]
  have h := Rat.divInt_eq_divInt_iff (n₁ := n) (d₁ := d) (n₂ := 0) (d₂ := 1) h0 (by decide)
  rw [show Rat.divInt 0 1 = 0 from rfl, Int.mul_one, Int.zero_mul] at h
  exact h
theorem mul_nine {x y : Int} (hx : x.natAbs ≤ 30000) (hy : y.natAbs ≤ 30000) : (x * y).natAbs ≤ 900000000 := mul_abs hx hy
theorem sum_abs {x y : Int} (hx : x.natAbs ≤ 900000000) (hy : y.natAbs ≤ 900000000) : (x + y).natAbs ≤ 1800000000 := by omega
theorem dif_abs {x y : Int} (hx : x.natAbs ≤ 900000000) (hy : y.natAbs ≤ 900000000) : (x - y).natAbs ≤ 1800000000 := by omega
theorem up_abs {x : Int} (hx : x.natAbs ≤ 900000000) : x.natAbs ≤ 1800000000 := by omega
theorem fit_ten9 {z : Int} (h : z.natAbs ≤ 1800000000) : In.Fit z := In.fit_of (k := 10) (by omega) (by decide)
/-- the four operations at small fractions -/
theorem mach_ops {n d m c : Int} (hn : n.natAbs ≤ 30000) (hd : 1 ≤ d ∧ d ≤ 30000) (hm : m.natAbs ≤ 30000) (hc : 1 ≤ c ∧ c ≤ 30000) {a b : Int × Int} (oa : Ra.Ok a) (ob : Ra.Ok b) (a1 : a.1.natAbs ≤ 30000) (a2 : a.2.natAbs ≤ 30000) (b1 : b.1.natAbs ≤ 30000) (b2 : b.2.natAbs ≤ 30000)
    (qa : Ra.qv a = Rat.divInt n d) (qb : Ra.qv b = Rat.divInt m c) (b0 : b.1 = 0 ↔ m = 0) :
    (∃ u v z : Int, Ra.addO (some a) (some b) = some (u, v) ∧ Ra.Ok (u, v) ∧ u.natAbs ≤ 1800000000 ∧ 1 ≤ v ∧ v ≤ 900000000 ∧ u * (d * c) = z ∧ (n * c + m * d) * v = z ∧ z.natAbs ≤ 1620000000000000000) ∧
    (∃ u v z : Int, Ra.subO (some a) (some b) = some (u, v) ∧ Ra.Ok (u, v) ∧ u.natAbs ≤ 1800000000 ∧ 1 ≤ v ∧ v ≤ 900000000 ∧ u * (d * c) = z ∧ (n * c - m * d) * v = z ∧ z.natAbs ≤ 1620000000000000000) ∧
    (∃ u v z : Int, Ra.mulO (some a) (some b) = some (u, v) ∧ Ra.Ok (u, v) ∧ u.natAbs ≤ 1800000000 ∧ 1 ≤ v ∧ v ≤ 900000000 ∧ u * (d * c) = z ∧ (n * m) * v = z ∧ z.natAbs ≤ 1620000000000000000) ∧
    (m ≠ 0 → ∃ u v z : Int, Ra.divO (some a) (some b) = some (u, v) ∧ Ra.Ok (u, v) ∧ u.natAbs ≤ 1800000000 ∧ 1 ≤ v ∧ v ≤ 900000000 ∧ u * (d * m) = z ∧ (n * c) * v = z ∧ z.natAbs ≤ 1620000000000000000) ∧
    (m = 0 → Ra.divO (some a) (some b) = none) := by
  have hd0 : d ≠ 0 := by omega
  have hc0 : c ≠ 0 := by omega
  have ha0 := Ra.ok_ne oa
  have hb0 := Ra.ok_ne ob
  have hdn : d.natAbs ≤ 30000 := by omega
  have hcn : c.natAbs ≤ 30000 := by omega
  have p1 := mul_nine a1 b2
  have p2 := mul_nine b1 a2
  have p3 := mul_nine a2 b2
  have p4 := mul_nine a1 b1
  have p5 := mul_nine a2 b1
  have q1 := mul_nine hn hcn
  have q2 := mul_nine hm hdn
  have q3 := mul_nine hdn hcn
  have q4 := mul_nine hn hm
  have q5 := mul_nine hdn hm
  have hdc : d * c ≠ 0 := Int.mul_ne_zero hd0 hc0
  have hab : a.2 * b.2 ≠ 0 := Int.mul_ne_zero ha0 hb0
  refine ⟨?_, ?_, ?_, fun h => ?_, fun h => ?_⟩
  · refine mach_one (W0 := n * c + m * d) (W1 := d * c) ⟨fit_ten9 (up_abs p1), fit_ten9 (up_abs p2), fit_ten9 (sum_abs p1 p2), fit_ten9 (up_abs p3)⟩ hab hdc (sum_abs p1 p2) p3 (sum_abs q1 q2) q3 ?_
    rw [← Rat.divInt_add_divInt _ _ ha0 hb0, ← Rat.divInt_add_divInt _ _ hd0 hc0]
    show Ra.qv a + Ra.qv b = _
    rw [qa, qb]
  · refine mach_one (W0 := n * c - m * d) (W1 := d * c) ⟨fit_ten9 (up_abs p1), fit_ten9 (up_abs p2), fit_ten9 (dif_abs p1 p2), fit_ten9 (up_abs p3)⟩ hab hdc (dif_abs p1 p2) p3 (dif_abs q1 q2) q3 ?_
    rw [← Rat.divInt_sub_divInt _ _ ha0 hb0, ← Rat.divInt_sub_divInt _ _ hd0 hc0]
    show Ra.qv a - Ra.qv b = _
    rw [qa, qb]
  · refine mach_one (W0 := n * m) (W1 := d * c) ⟨fit_ten9 (up_abs p4), fit_ten9 (up_abs p3)⟩ hab hdc (up_abs p4) p3 (up_abs q4) q3 ?_
    rw [← Rat.divInt_mul_divInt, ← Rat.divInt_mul_divInt]
    show Ra.qv a * Ra.qv b = _
    rw [qa, qb]
  · have hb1 : b.1 ≠ 0 := fun k => h (b0.1 k)
    refine mach_one (W0 := n * c) (W1 := d * m) ⟨fit_ten9 (up_abs p1), fit_ten9 (up_abs p5)⟩ (Int.mul_ne_zero ha0 hb1) (Int.mul_ne_zero hd0 h) (up_abs p1) p5 (up_abs q1) q5 ?_
    have e1 : Rat.divInt b.2 b.1 = Rat.divInt c m := by
      have : Rat.divInt b.1 b.2 = Rat.divInt m c := qb
      rw [← Rat.inv_divInt, this, Rat.inv_divInt]
    rw [← Rat.divInt_mul_divInt, ← Rat.divInt_mul_divInt, e1]
    show Ra.qv a * _ = _
    rw [qa]
  · show Ra.redO _ _ (a.2 * b.1) = none
    rw [b0.2 h, Int.mul_zero]
    exact if_neg (fun k => k.2 rfl)
theorem mach_cmp {n d m c : Int} (hd : 1 ≤ d) (hc : 1 ≤ c) {a b : Int × Int} (oa : Ra.Ok a) (ob : Ra.Ok b) (qa : Ra.qv a = Rat.divInt n d) (qb : Ra.qv b = Rat.divInt m c) :
    Ra.cmpO (some a) (some b) = if n * c < m * d then -1 else if m * d < n * c then 1 else 0 := by
  rw [Ra.cmp_rat oa ob, qa, qb]
  have h1 := Ra.divInt_lt (a := n) (b := d) (c := m) (d := c) (by omega) (by omega)
  have h2 := Ra.divInt_lt (a := m) (b := c) (c := n) (d := d) (by omega) (by omega)
  unfold Ra.cmpR
  by_cases k : n * c < m * d
  · rw [if_pos (h1.2 k), if_pos k]
  · rw [if_neg (fun x => k (h1.1 x)), if_neg k]
    by_cases k2 : m * d < n * c
    · rw [if_pos (h2.2 k2), if_pos k2]
    · rw [if_neg (fun x => k2 (h2.1 x)), if_neg k2]
end Go.Proofs.YtlehjmanlccncaaGreatDoor
