/- The laws of integers, as mathematics: sizes, signs, divisors. -/
/- Fractions as mathematics: lowest terms, comparison. -/
/- Fractions as texts: what the functions of the package return, as mathematics. -/
/- Fractions as rational numbers: what the laws say, as mathematics. -/
/- The laws of fractions, as mathematics. -/
/- Fractions on a grid, as mathematics. -/
/- More laws of fractions, as mathematics: order, lowest terms, limits. -/
import Derived.Test.YtlehjmanlccncaaGreatDoorIntGA
set_option linter.unusedVariables false
set_option linter.unusedSimpArgs false
namespace Go.Proofs.YtlehjmanlccncaaGreatDoor
open Go.RowKit

namespace In
theorem fit_add {a b : Int} {k : Nat} (hk : k < 200) (ha : a.natAbs < 10 ^ k) (hb : b.natAbs < 10 ^ k) : (a + b).natAbs < 10 ^ (k + 1) := by
  have := Int.natAbs_add_le a b
  rw [Nat.pow_succ]
  omega
theorem abs_add {a b : Int} {k : Nat} (ha : a.natAbs < 10 ^ k) (hb : b.natAbs < 10 ^ k) : (a + b).natAbs < 10 ^ (k + 1) := by
  have := Int.natAbs_add_le a b
  rw [Nat.pow_succ]
  omega
theorem abs_sub {a b : Int} {k : Nat} (ha : a.natAbs < 10 ^ k) (hb : b.natAbs < 10 ^ k) : (a - b).natAbs < 10 ^ (k + 1) := by
  have := Int.natAbs_sub_le a b
  rw [Nat.pow_succ]
  omega
theorem abs_mul {a b : Int} {k l : Nat} (ha : a.natAbs < 10 ^ k) (hb : b.natAbs < 10 ^ l) : (a * b).natAbs < 10 ^ (k + l) := by
  rw [Int.natAbs_mul, Nat.pow_add]
  exact Nat.mul_lt_mul'' ha hb
theorem abs_up {a : Int} {k l : Nat} (ha : a.natAbs < 10 ^ k) (h : k ≤ l) : a.natAbs < 10 ^ l := Nat.lt_of_lt_of_le ha (Nat.pow_le_pow_right (by decide) h)
theorem fit_of {a : Int} {k : Nat} (ha : a.natAbs < 10 ^ k) (h : k ≤ 200) : Fit a := abs_up ha h
theorem abs_div {a b : Int} {k : Nat} (ha : a.natAbs < 10 ^ k) : (a / b).natAbs < 10 ^ k := Nat.lt_of_le_of_lt (quo_le a b) ha
theorem abs_mod {a b : Int} {k : Nat} (hb0 : b ≠ 0) (hb : b.natAbs < 10 ^ k) : (a % b).natAbs < 10 ^ k := by
  have h1 := Int.emod_nonneg a hb0
  have h2 := Int.emod_lt a hb0
  omega
theorem cmpZ_le (x y : Int) : decide (cmpZ x y ≤ 0) = decide (x ≤ y) := by
  unfold cmpZ
  split
  · rw [decide_eq_true (by omega), decide_eq_true (by omega)]
  · split
    · rw [decide_eq_false (by omega), decide_eq_false (by omega)]
    · rw [decide_eq_true (by omega), decide_eq_true (by omega)]
theorem cmpZ_sub (x y : Int) : cmpZ (x - y) 0 = cmpZ x y := by unfold cmpZ; split <;> split <;> (try split) <;> (try split) <;> omega
theorem cmpZ_add (x y z : Int) : cmpZ (x + z) (y + z) = cmpZ x y := by unfold cmpZ; split <;> split <;> (try split) <;> (try split) <;> omega
theorem cmpZ_turn (x y : Int) : cmpZ y x = -cmpZ x y := by unfold cmpZ; split <;> split <;> (try split) <;> omega
theorem cmpZ_zero (x y : Int) : cmpZ x y = 0 ↔ x = y := by unfold cmpZ; split <;> (try split) <;> omega
theorem cmpZ_in (x y : Int) : -1 ≤ cmpZ x y ∧ cmpZ x y ≤ 1 := by unfold cmpZ; split <;> (try split) <;> omega
end In
end Go.Proofs.YtlehjmanlccncaaGreatDoor
set_option linter.unusedVariables false
set_option linter.unusedSimpArgs false
namespace Go.Proofs.YtlehjmanlccncaaGreatDoor
open Go.RowKit

namespace Ra
abbrev gcdI (x y : Int) : Int := ((Nat.gcd x.natAbs y.natAbs : Nat) : Int)
/-- numerator and denominator of x / y in lowest terms -/
def redN (x y : Int) : Int := if y < 0 then -(x / gcdI x y) else x / gcdI x y
def redD (x y : Int) : Int := if y < 0 then -(y / gcdI x y) else y / gcdI x y
/-- lowest terms -/
def Low (x y : Int) : Prop := 0 < y ∧ gcdI x y = 1
theorem gcd_ne {x y : Int} (h : y ≠ 0) : gcdI x y ≠ 0 := by
  intro e
  have h1 : Nat.gcd x.natAbs y.natAbs = 0 := by
    have h2 : ((Nat.gcd x.natAbs y.natAbs : Nat) : Int) = 0 := e
    omega
  have := Nat.gcd_eq_zero_iff.1 h1
  omega
theorem gcd_pos {x y : Int} (h : y ≠ 0) : 0 < gcdI x y := by
  have h1 := gcd_ne (x := x) h
  have h2 : 0 ≤ gcdI x y := Int.natCast_nonneg _
  omega
theorem gcd_left (x y : Int) : ∃ p, x = gcdI x y * p := Int.ofNat_dvd_left.2 (Nat.gcd_dvd_left _ _)
theorem gcd_right (x y : Int) : ∃ p, y = gcdI x y * p := Int.ofNat_dvd_left.2 (Nat.gcd_dvd_right _ _)
theorem gcd_parts {x y : Int} (h : y ≠ 0) : ∃ p q, x = gcdI x y * p ∧ y = gcdI x y * q ∧ x / gcdI x y = p ∧ y / gcdI x y = q ∧ gcdI p q = 1 ∧ x % gcdI x y = 0 ∧ y % gcdI x y = 0 := by
  obtain ⟨p, hp⟩ := gcd_left x y
  obtain ⟨q, hq⟩ := gcd_right x y
  have hne := gcd_ne (x := x) h
  have hg : gcdI x y = gcdI (gcdI x y * p) (gcdI x y * q) := by rw [← hp, ← hq]
  refine ⟨p, q, hp, hq, ?_⟩
  generalize gcdI x y = g at *
  subst hp hq
  refine ⟨Int.mul_ediv_cancel_left _ hne, Int.mul_ediv_cancel_left _ hne, ?_, Int.mul_emod_right _ _, Int.mul_emod_right _ _⟩
  unfold gcdI at hg ⊢
  rw [Int.natAbs_mul, Int.natAbs_mul, Nat.gcd_mul_left] at hg
  have h1 : g.natAbs = g.natAbs * Nat.gcd p.natAbs q.natAbs := by
    have h2 := congrArg Int.natAbs hg
    rwa [Int.natAbs_natCast] at h2
  have h3 : Nat.gcd p.natAbs q.natAbs = 1 := Nat.eq_of_mul_eq_mul_left (show 0 < g.natAbs by omega) (by rw [← h1, Nat.mul_one])
  rw [h3]
  rfl
theorem gcd_neg_left (x y : Int) : gcdI (-x) y = gcdI x y := by unfold gcdI; rw [Int.natAbs_neg]
theorem gcd_neg_right (x y : Int) : gcdI x (-y) = gcdI x y := by unfold gcdI; rw [Int.natAbs_neg]
theorem gcd_comm (x y : Int) : gcdI x y = gcdI y x := by unfold gcdI; rw [Nat.gcd_comm]
/-- what is reduced is in lowest terms, and has the same value -/
theorem red_low {x y : Int} (h : y ≠ 0) : Low (redN x y) (redD x y) ∧ redN x y * y = x * redD x y := by
  obtain ⟨p, q, hp, hq, e1, e2, hpq, _, _⟩ := gcd_parts (x := x) h
  have hg := gcd_pos (x := x) h
  unfold redN redD
  rw [e1, e2]
  by_cases hy : y < 0
  · rw [if_pos hy, if_pos hy]
    have hq0 : q < 0 := by
      rcases Int.lt_or_le q 0 with h1 | h1
      · exact h1
      · have := Int.mul_nonneg (Int.le_of_lt hg) h1
        omega
    refine ⟨⟨by omega, by rw [gcd_neg_left, gcd_neg_right, hpq]⟩, ?_⟩
    generalize gcdI x y = g at *
    subst hp hq
    rw [Int.neg_mul, Int.mul_neg]
    congr 1
    ac_rfl
  · rw [if_neg hy, if_neg hy]
    have hq0 : 0 < q := by
      rcases Int.lt_or_le 0 q with h1 | h1
      · exact h1
      · have h2 : gcdI x y * q ≤ 0 := Int.mul_nonpos_of_nonneg_of_nonpos (Int.le_of_lt hg) h1
        omega
    refine ⟨⟨hq0, hpq⟩, ?_⟩
    generalize gcdI x y = g at *
    subst hp hq
    ac_rfl
/-- lowest terms are unique -/
theorem low_eq {a b c d : Int} (h1 : Low a b) (h2 : Low c d) (h : a * d = c * b) : a = c ∧ b = d := by
  obtain ⟨hb, hab⟩ := h1
  obtain ⟨hd, hcd⟩ := h2
  have g1 : Nat.gcd a.natAbs b.natAbs = 1 := by
    have : ((Nat.gcd a.natAbs b.natAbs : Nat) : Int) = 1 := hab
    omega
  have g2 : Nat.gcd c.natAbs d.natAbs = 1 := by
    have : ((Nat.gcd c.natAbs d.natAbs : Nat) : Int) = 1 := hcd
    omega
  have hn := congrArg Int.natAbs h
  rw [Int.natAbs_mul, Int.natAbs_mul] at hn
  have e1 : b.natAbs ∣ d.natAbs := by
    refine Nat.Coprime.dvd_of_dvd_mul_left (k := b.natAbs) (m := a.natAbs) (n := d.natAbs) ?_ ⟨c.natAbs, by rw [hn, Nat.mul_comm]⟩
    show Nat.gcd b.natAbs a.natAbs = 1
    rw [Nat.gcd_comm]
    exact g1
  have e2 : d.natAbs ∣ b.natAbs := by
    refine Nat.Coprime.dvd_of_dvd_mul_left (k := d.natAbs) (m := c.natAbs) (n := b.natAbs) ?_ ⟨a.natAbs, by rw [← hn, Nat.mul_comm]⟩
    show Nat.gcd d.natAbs c.natAbs = 1
    rw [Nat.gcd_comm]
    exact g2
  have e3 := Nat.dvd_antisymm e1 e2
  have hbd : b = d := by omega
  subst hbd
  exact ⟨Int.eq_of_mul_eq_mul_right (by omega) h, rfl⟩
theorem red_self {x y : Int} (h : Low x y) : redN x y = x ∧ redD x y = y := by
  obtain ⟨h1, h2⟩ := red_low (x := x) (show y ≠ 0 by have := h.1; omega)
  exact low_eq h1 h h2
/-- equal values have the same lowest terms -/
theorem red_eq {a b c d : Int} (hb : b ≠ 0) (hd : d ≠ 0) (h : a * d = c * b) : redN a b = redN c d ∧ redD a b = redD c d := by
  obtain ⟨h1, e1⟩ := red_low (x := a) hb
  obtain ⟨h2, e2⟩ := red_low (x := c) hd
  refine low_eq h1 h2 ?_
  have hbd : b * d ≠ 0 := Int.mul_ne_zero hb hd
  refine Int.eq_of_mul_eq_mul_right hbd ?_
  have t1 : redN a b * redD c d * (b * d) = redN a b * b * (redD c d * d) := by ac_rfl
  have t2 : redN c d * redD a b * (b * d) = redN c d * d * (redD a b * b) := by ac_rfl
  rw [t1, t2, e1, e2]
  have t3 : a * redD a b * (redD c d * d) = (a * d) * (redD a b * redD c d) := by ac_rfl
  have t4 : c * redD c d * (redD a b * b) = (c * b) * (redD a b * redD c d) := by ac_rfl
  rw [t3, t4, h]
/-- reducing does not make longer -/
theorem red_le {x y : Int} (h : y ≠ 0) : (redN x y).natAbs ≤ x.natAbs ∧ (redD x y).natAbs ≤ y.natAbs := by
  have h1 := Int.natAbs_ediv_le_natAbs x (gcdI x y)
  have h2 := Int.natAbs_ediv_le_natAbs y (gcdI x y)
  unfold redN redD
  constructor
  · split
    · rw [Int.natAbs_neg]; exact h1
    · exact h1
  · split
    · rw [Int.natAbs_neg]; exact h2
    · exact h2
theorem red_fit {x y : Int} (h : y ≠ 0) (hx : In.Fit x) (hy : In.Fit y) : In.Fit (redN x y) ∧ In.Fit (redD x y) :=
  ⟨Nat.lt_of_le_of_lt (red_le h).1 hx, Nat.lt_of_le_of_lt (red_le h).2 hy⟩
/-- comparison crosswise -/
def cmpQ (a b c d : Int) : Int := In.cmpZ (a * d) (c * b)
theorem cmpZ_same {a b c d : Int} (h1 : a < b ↔ c < d) (h2 : b < a ↔ d < c) : In.cmpZ a b = In.cmpZ c d := by
  unfold In.cmpZ
  by_cases h : a < b
  · rw [if_pos h, if_pos (h1.1 h)]
  · rw [if_neg h, if_neg (fun k => h (h1.2 k))]
    by_cases h' : b < a
    · rw [if_pos h', if_pos (h2.1 h')]
    · rw [if_neg h', if_neg (fun k => h' (h2.2 k))]
/-- by the whole parts -/
theorem cmpQ_whole {a b c d : Int} (hb : 0 < b) (hd : 0 < d) (h : a / b ≠ c / d) : cmpQ a b c d = In.cmpZ (a / b) (c / d) := by
  have key : ∀ {a b c d : Int}, 0 < b → 0 < d → a / b < c / d → a * d < c * b := by
    intro a b c d hb hd h
    have h1 : a < (a / b + 1) * b := Int.lt_ediv_add_one_mul_self a hb
    have h2 : c / d * d ≤ c := Int.ediv_mul_le c (by omega)
    have h3 : a * d < (a / b + 1) * b * d := Int.mul_lt_mul_of_pos_right h1 hd
    have h4 : (a / b + 1) * (b * d) ≤ c / d * (b * d) := Int.mul_le_mul_of_nonneg_right (by omega) (Int.le_of_lt (Int.mul_pos hb hd))
    have h5 : c / d * d * b ≤ c * b := Int.mul_le_mul_of_nonneg_right h2 (by omega)
    have e1 : (a / b + 1) * b * d = (a / b + 1) * (b * d) := by ac_rfl
    have e2 : c / d * d * b = c / d * (b * d) := by ac_rfl
    omega
  refine cmpZ_same ⟨fun k => ?_, key hb hd⟩ ⟨fun k => ?_, fun k => ?_⟩
  · rcases Int.lt_or_gt_of_ne h with h1 | h1
    · exact h1
    · have := key hd hb h1
      omega
  · rcases Int.lt_or_gt_of_ne h with h1 | h1
    · have := key hb hd h1
      omega
    · exact h1
  · exact key hd hb k
/-- by the remainders -/
theorem cmpQ_rest {a b c d : Int} (h : a / b = c / d) : cmpQ a b c d = In.cmpZ (a % b * d) (c % d * b) := by
  have h1 := Int.emod_add_ediv_mul a b
  have h2 := Int.emod_add_ediv_mul c d
  have e1 : a * d = a % b * d + a / b * b * d := by rw [← Int.add_mul, h1]
  have e2 : c * b = c % d * b + a / b * b * d := by
    have : c / d * d * b = a / b * b * d := by rw [← h]; ac_rfl
    rw [← this, ← Int.add_mul, h2]
  unfold cmpQ
  rw [e1, e2]
  exact In.cmpZ_add _ _ _
theorem cmpQ_zero {a b c d : Int} (hb : 0 < b) (hd : 0 < d) (h : a / b = c / d) (h0 : a % b = 0 ∨ c % d = 0) : cmpQ a b c d = In.cmpZ (a % b) (c % d) := by
  rw [cmpQ_rest h]
  have p1 := Int.emod_nonneg a (show b ≠ 0 by omega)
  have p2 := Int.emod_nonneg c (show d ≠ 0 by omega)
  generalize a % b = r at *
  generalize c % d = s at *
  rcases h0 with rfl | rfl
  · rw [Int.zero_mul]
    refine cmpZ_same ⟨fun k => ?_, fun k => Int.mul_pos k hb⟩ ⟨fun k => ?_, fun k => ?_⟩
    · rcases Int.lt_or_le 0 s with h1 | h1
      · exact h1
      · have : s = 0 := by omega
        rw [this, Int.zero_mul] at k
        omega
    · have := Int.mul_nonneg p2 (Int.le_of_lt hb); omega
    · omega
  · rw [Int.zero_mul]
    refine cmpZ_same ⟨fun k => ?_, fun k => ?_⟩ ⟨fun k => ?_, fun k => Int.mul_pos k hd⟩
    · have := Int.mul_nonneg p1 (Int.le_of_lt hd); omega
    · omega
    · rcases Int.lt_or_le 0 r with h1 | h1
      · exact h1
      · have : r = 0 := by omega
        rw [this, Int.zero_mul] at k
        omega
/-- what is left, upside down -/
theorem cmpQ_turn {a b c d : Int} (h : a / b = c / d) : cmpQ a b c d = cmpQ d (c % d) b (a % b) := by
  rw [cmpQ_rest h]
  unfold cmpQ
  rw [Int.mul_comm (a % b) d, Int.mul_comm (c % d) b]
end Ra
end Go.Proofs.YtlehjmanlccncaaGreatDoor
set_option linter.unusedVariables false
set_option linter.unusedSimpArgs false
namespace Go.Proofs.YtlehjmanlccncaaGreatDoor
open Go.RowKit

namespace Ra
/-- a fraction in lowest terms whose parts are not too long -/
structure Ok (p : Int × Int) : Prop where
  low : Low p.1 p.2
  num : In.Fit p.1
  den : In.Fit p.2
/-- texts, and what they stand for -/
def val (r : ByteArray × ByteArray) : Option (Int × Int) :=
  match In.num r.1, In.num r.2 with
  | some x, some y => if 0 < y ∧ gcdI x y = 1 then some (x, y) else none
  | _, _ => none
def tx (a : Option (Int × Int)) : ByteArray × ByteArray := match a with | none => (⟨#[]⟩, ⟨#[]⟩) | some p => (In.txt p.1, In.txt p.2)
def err (a : Option (Int × Int)) : Int := match a with | none => 40 | some _ => 0
theorem val_some {r : ByteArray × ByteArray} {p : Int × Int} (h : val r = some p) : r = tx (some p) ∧ Ok p ∧ In.num r.1 = some p.1 ∧ In.num r.2 = some p.2 := by
  obtain ⟨s, t⟩ := r
  unfold val at h
  dsimp only at h
  cases hs : In.num s with
  | none => rw [hs] at h; cases h
  | some x =>
    cases ht : In.num t with
    | none => rw [hs, ht] at h; cases h
    | some y =>
      rw [hs, ht] at h
      dsimp only at h
      split at h
      · rename_i hc
        obtain rfl := Option.some.inj h
        obtain ⟨rfl, fx⟩ := In.num_some hs
        obtain ⟨rfl, fy⟩ := In.num_some ht
        exact ⟨rfl, ⟨hc, fx, fy⟩, by first | rfl | exact hs, by first | rfl | exact ht⟩
      · cases h
theorem val_tx {p : Int × Int} (h : Ok p) : val (tx (some p)) = some p := by
  unfold val tx
  dsimp only
  rw [In.num_fit h.num, In.num_fit h.den]
  exact if_pos ⟨h.low.1, h.low.2⟩
theorem val_zero : val (tx none) = none := by
  have : In.num ⟨#[]⟩ = none := by kernel_rfl
  unfold val tx
  dsimp only
  rw [this]
/-- an optional fraction that is well made -/
def OkO (a : Option (Int × Int)) : Prop := ∀ p, a = some p → Ok p
theorem val_ok (r : ByteArray × ByteArray) : OkO (val r) := fun _ h => (val_some h).2.1
theorem val_txO {a : Option (Int × Int)} (h : OkO a) : val (tx a) = a := by
  cases a with
  | none => exact val_zero
  | some p => exact val_tx (h p rfl)
theorem tx_inj {a b : Option (Int × Int)} (ha : OkO a) (hb : OkO b) (h : tx a = tx b) : a = b := by rw [← val_txO ha, h, val_txO hb]
/-- in lowest terms, if everything fits -/
def redO (fits : Prop) [Decidable fits] (n d : Int) : Option (Int × Int) := if fits ∧ d ≠ 0 then some (redN n d, redD n d) else none
theorem redO_ok {fits : Prop} [Decidable fits] {n d : Int} (h : fits → In.Fit n ∧ In.Fit d) : OkO (redO fits n d) := by
  intro p hp
  unfold redO at hp
  split at hp
  · rename_i hc
    obtain rfl := Option.some.inj hp
    have hf := h hc.1
    have h2 := red_fit hc.2 hf.1 hf.2
    exact ⟨(red_low hc.2).1, h2.1, h2.2⟩
  · cases hp
def makeS (n d : ByteArray) : Option (Int × Int) :=
  match In.num n, In.num d with
  | some x, some y => redO True x y
  | _, _ => none
theorem makeS_ok (n d : ByteArray) : OkO (makeS n d) := by
  unfold makeS
  cases hs : In.num n with
  | none => intro p h; cases h
  | some x =>
    cases ht : In.num d with
    | none => intro p h; cases h
    | some y => exact redO_ok (fun _ => ⟨(In.num_some hs).2, (In.num_some ht).2⟩)
def lift2 (f : Int × Int → Int × Int → Option (Int × Int)) (a b : Option (Int × Int)) : Option (Int × Int) :=
  match a, b with
  | some p, some q => f p q
  | _, _ => none
abbrev addP (p q : Int × Int) : Option (Int × Int) := redO (In.Fit (p.1 * q.2) ∧ In.Fit (q.1 * p.2) ∧ In.Fit (p.1 * q.2 + q.1 * p.2) ∧ In.Fit (p.2 * q.2)) (p.1 * q.2 + q.1 * p.2) (p.2 * q.2)
abbrev subP (p q : Int × Int) : Option (Int × Int) := redO (In.Fit (p.1 * q.2) ∧ In.Fit (q.1 * p.2) ∧ In.Fit (p.1 * q.2 - q.1 * p.2) ∧ In.Fit (p.2 * q.2)) (p.1 * q.2 - q.1 * p.2) (p.2 * q.2)
abbrev mulP (p q : Int × Int) : Option (Int × Int) := redO (In.Fit (p.1 * q.1) ∧ In.Fit (p.2 * q.2)) (p.1 * q.1) (p.2 * q.2)
abbrev divP (p q : Int × Int) : Option (Int × Int) := redO (In.Fit (p.1 * q.2) ∧ In.Fit (p.2 * q.1)) (p.1 * q.2) (p.2 * q.1)
abbrev addO := lift2 addP
abbrev subO := lift2 subP
abbrev mulO := lift2 mulP
abbrev divO := lift2 divP
theorem lift2_ok {f : Int × Int → Int × Int → Option (Int × Int)} (h : ∀ p q, OkO (f p q)) (a b : Option (Int × Int)) : OkO (lift2 f a b) := by
  unfold lift2
  cases a with
  | none => intro p h; cases h
  | some p =>
    cases b with
    | none => intro p h; cases h
    | some q => exact h p q
theorem addO_ok (a b : Option (Int × Int)) : OkO (addO a b) := lift2_ok (fun _ _ => redO_ok fun h => ⟨h.2.2.1, h.2.2.2⟩) a b
theorem subO_ok (a b : Option (Int × Int)) : OkO (subO a b) := lift2_ok (fun _ _ => redO_ok fun h => ⟨h.2.2.1, h.2.2.2⟩) a b
theorem mulO_ok (a b : Option (Int × Int)) : OkO (mulO a b) := lift2_ok (fun _ _ => redO_ok fun h => h) a b
theorem divO_ok (a b : Option (Int × Int)) : OkO (divO a b) := lift2_ok (fun _ _ => redO_ok fun h => h) a b
def cmpO (a b : Option (Int × Int)) : Int :=
  match a, b with
  | some p, some q => cmpQ p.1 p.2 q.1 q.2
  | _, _ => 0
/-- rounding to a grid -/
def roundP (up : Bool) (p : Int × Int) (k : Nat) : Option (Int × Int) :=
  if In.Fit (p.1 * 10 ^ k) then
    if up = true ∧ p.1 * 10 ^ k % p.2 ≠ 0 then redO (In.Fit (p.1 * 10 ^ k / p.2 + 1)) (p.1 * 10 ^ k / p.2 + 1) (10 ^ k)
    else redO True (p.1 * 10 ^ k / p.2) (10 ^ k)
  else none
def roundO (up : Bool) (a : Option (Int × Int)) (k : Int) : Option (Int × Int) :=
  match a with
  | some p => if 0 ≤ k ∧ k ≤ 30 then roundP up p k.toNat else none
  | none => none
end Ra
/-- a fraction's value -/
abbrev ratV (r : ByteArray × ByteArray) : Value := .agg #[.string r.1, .string r.2]
/-- what an operation returns -/
abbrev resV (a : Option (Int × Int)) : Value := .tuple #[ratV (Ra.tx a), .int .i64 (Ra.err a)]
end Go.Proofs.YtlehjmanlccncaaGreatDoor
set_option linter.unusedVariables false
set_option linter.unusedSimpArgs false
namespace Go.Proofs.YtlehjmanlccncaaGreatDoor
open Go.RowKit

namespace Ra
/-- the value -/
def qv (p : Int × Int) : Rat := Rat.divInt p.1 p.2
theorem ok_ne {p : Int × Int} (h : Ok p) : p.2 ≠ 0 := by have := h.low.1; omega
theorem qv_inj {p q : Int × Int} (hp : Ok p) (hq : Ok q) (h : qv p = qv q) : p = q := by
  obtain ⟨a, b⟩ := p
  obtain ⟨c, d⟩ := q
  have h1 := (Rat.divInt_eq_divInt_iff (ok_ne hp) (ok_ne hq)).1 h
  obtain ⟨e1, e2⟩ := low_eq hp.low hq.low h1
  dsimp only at e1 e2
  rw [e1, e2]
theorem redO_qv {fits : Prop} [Decidable fits] {n d : Int} {r : Int × Int} (h : redO fits n d = some r) : fits ∧ d ≠ 0 ∧ qv r = Rat.divInt n d := by
  unfold redO at h
  split at h
  · rename_i hc
    obtain rfl := Option.some.inj h
    obtain ⟨h1, h2⟩ := red_low (x := n) hc.2
    refine ⟨hc.1, hc.2, (Rat.divInt_eq_divInt_iff (by have := h1.1; dsimp only; omega) hc.2).2 ?_⟩
    exact h2
  · cases h
theorem redO_is {fits : Prop} [Decidable fits] {n d : Int} (h : fits) (hd : d ≠ 0) : redO fits n d = some (redN n d, redD n d) := if_pos ⟨h, hd⟩
theorem add_qv {p q r : Int × Int} (hp : Ok p) (hq : Ok q) (h : addP p q = some r) : qv r = qv p + qv q := by
  rw [(redO_qv h).2.2]
  exact (Rat.divInt_add_divInt _ _ (ok_ne hp) (ok_ne hq)).symm
theorem sub_qv {p q r : Int × Int} (hp : Ok p) (hq : Ok q) (h : subP p q = some r) : qv r = qv p - qv q := by
  rw [(redO_qv h).2.2]
  exact (Rat.divInt_sub_divInt _ _ (ok_ne hp) (ok_ne hq)).symm
theorem mul_qv {p q r : Int × Int} (h : mulP p q = some r) : qv r = qv p * qv q := by
  rw [(redO_qv h).2.2]
  exact (Rat.divInt_mul_divInt _ _).symm
theorem qv_zero {q : Int × Int} (hq : Ok q) : qv q = 0 ↔ q.1 = 0 := by
  have h := Rat.divInt_eq_divInt_iff (n₁ := q.1) (d₁ := q.2) (n₂ := 0) (d₂ := 1) (ok_ne hq) (by decide)
  rw [show Rat.divInt 0 1 = 0 from rfl, Int.mul_one, Int.zero_mul] at h
  exact h
theorem div_qv {p q r : Int × Int} (hq : Ok q) (h : divP p q = some r) : qv r = qv p / qv q ∧ qv q ≠ 0 := by
  obtain ⟨_, h2, h3⟩ := redO_qv h
  constructor
  · rw [h3, Rat.div_def]
    show _ = qv p * (Rat.divInt q.1 q.2)⁻¹
    rw [Rat.inv_divInt]
    exact (Rat.divInt_mul_divInt _ _).symm
  · rw [Ne, qv_zero hq]
    exact fun e => h2 (by rw [e, Int.mul_zero])
theorem le_qv {p q : Int × Int} (hp : Ok p) (hq : Ok q) : qv p ≤ qv q ↔ p.1 * q.2 ≤ q.1 * p.2 := by
  rw [Rat.le_iff_sub_nonneg]
  show 0 ≤ Rat.divInt q.1 q.2 - Rat.divInt p.1 p.2 ↔ _
  rw [Rat.divInt_sub_divInt _ _ (ok_ne hq) (ok_ne hp), Rat.divInt_nonneg_iff_of_pos_right (Int.mul_pos hq.low.1 hp.low.1)]
  omega
theorem lt_qv {p q : Int × Int} (hp : Ok p) (hq : Ok q) : qv p < qv q ↔ p.1 * q.2 < q.1 * p.2 := by
  rw [← Rat.not_le, le_qv hq hp]
  omega
/-- the sign of the difference -/
def cmpR (a b : Rat) : Int := if a < b then -1 else if b < a then 1 else 0
theorem cmp_qv {p q : Int × Int} (hp : Ok p) (hq : Ok q) : cmpQ p.1 p.2 q.1 q.2 = cmpR (qv p) (qv q) := by
  unfold cmpQ cmpR In.cmpZ
  by_cases h : p.1 * q.2 < q.1 * p.2
  · rw [if_pos h, if_pos ((lt_qv hp hq).2 h)]
  · rw [if_neg h, if_neg (fun k => h ((lt_qv hp hq).1 k))]
    by_cases h' : q.1 * p.2 < p.1 * q.2
    · rw [if_pos h', if_pos ((lt_qv hq hp).2 h')]
    · rw [if_neg h', if_neg (fun k => h' ((lt_qv hq hp).1 k))]
theorem cmpR_turn (a b : Rat) : cmpR b a = -cmpR a b := by
  unfold cmpR
  by_cases h : a < b
  · have h2 : ¬ b < a := by grind
    rw [if_pos h, if_neg h2, if_pos h]
    rfl
  · by_cases h' : b < a
    · rw [if_pos h', if_neg h, if_pos h']
    · rw [if_neg h', if_neg h, if_neg h, if_neg h']
      rfl
theorem cmpR_zero (a b : Rat) : cmpR a b = 0 ↔ a = b := by
  unfold cmpR
  by_cases h : a < b
  · rw [if_pos h]
    constructor
    · intro e; cases e
    · grind
  · rw [if_neg h]
    by_cases h' : b < a
    · rw [if_pos h']
      constructor
      · intro e; cases e
      · grind
    · rw [if_neg h']
      grind
theorem cmpR_same {a b c d : Rat} (h1 : a < b ↔ c < d) (h2 : b < a ↔ d < c) : cmpR a b = cmpR c d := by
  unfold cmpR
  by_cases h : a < b
  · rw [if_pos h, if_pos (h1.1 h)]
  · rw [if_neg h, if_neg (fun k => h (h1.2 k))]
    by_cases h' : b < a
    · rw [if_pos h', if_pos (h2.1 h')]
    · rw [if_neg h', if_neg (fun k => h' (h2.2 k))]
theorem cmpR_sub (a b : Rat) : cmpR (a - b) 0 = cmpR a b := cmpR_same (by grind) (by grind)
theorem cmpR_add (a b c : Rat) : cmpR (a + c) (b + c) = cmpR a b := cmpR_same (by grind) (by grind)
theorem cmpR_in (a b : Rat) : -1 ≤ cmpR a b ∧ cmpR a b ≤ 1 := by unfold cmpR; split <;> (try split) <;> decide
theorem cmpR_le (a b : Rat) : cmpR a b ≤ 0 ↔ a ≤ b := by
  unfold cmpR
  by_cases h : a < b
  · rw [if_pos h]
    constructor
    · grind
    · intro _; decide
  · rw [if_neg h]
    by_cases h' : b < a
    · rw [if_pos h']
      constructor
      · intro e; exact absurd e (by decide)
      · grind
    · rw [if_neg h']
      constructor
      · grind
      · intro _; decide
theorem cmpR_lt (a b : Rat) : cmpR a b < 0 ↔ a < b := by
  unfold cmpR
  by_cases h : a < b
  · rw [if_pos h]
    exact ⟨fun _ => h, fun _ => by decide⟩
  · rw [if_neg h]
    constructor
    · intro e
      exfalso
      revert e
      split <;> decide
    · intro e; exact absurd e h
theorem mul_iff {a b c : Rat} (h : 0 < c) : a * c < b * c ↔ a < b := by
  constructor
  · intro k
    by_cases h1 : a < b
    · exact h1
    · exfalso
      by_cases h2 : b < a
      · have := Rat.mul_lt_mul_of_pos_right h2 h
        grind
      · have : a = b := by grind
        rw [this] at k
        grind
  · exact fun k => Rat.mul_lt_mul_of_pos_right k h
/-- multiplying by c multiplies the sign -/
theorem cmpR_mul (a b c : Rat) : cmpR (a * c) (b * c) = cmpR a b * cmpR c 0 := by
  by_cases h : c < 0
  · have e : cmpR c 0 = -1 := if_pos h
    have h0 : 0 < -c := by grind
    have e1 := mul_iff (a := a) (b := b) h0
    have e2 := mul_iff (a := b) (b := a) h0
    rw [e, Int.mul_neg, Int.mul_one, ← cmpR_turn]
    exact cmpR_same (by grind) (by grind)
  · by_cases h1 : 0 < c
    · have e : cmpR c 0 = 1 := by unfold cmpR; rw [if_neg h, if_pos h1]
      rw [e, Int.mul_one]
      exact cmpR_same (mul_iff h1) (mul_iff h1)
    · have e : c = 0 := by grind
      subst e
      rw [(cmpR_zero (0 : Rat) 0).2 rfl, Int.mul_zero, Rat.mul_zero, Rat.mul_zero]
      exact (cmpR_zero 0 0).2 rfl
end Ra
end Go.Proofs.YtlehjmanlccncaaGreatDoor
set_option linter.unusedVariables false
set_option linter.unusedSimpArgs false
namespace Go.Proofs.YtlehjmanlccncaaGreatDoor
open Go.RowKit

namespace Ra
theorem redO_same {f g : Prop} [Decidable f] [Decidable g] {n d m c : Int} (hf : f ↔ g) (hn : n = m) (hd : d = c) : redO f n d = redO g m c := by
  subst hn hd
  unfold redO
  by_cases h : f ∧ d ≠ 0
  · rw [if_pos h, if_pos ⟨hf.1 h.1, h.2⟩]
  · rw [if_neg h, if_neg (fun k => h ⟨hf.2 k.1, k.2⟩)]
theorem lift2_some {f : Int × Int → Int × Int → Option (Int × Int)} {a b : Option (Int × Int)} {r : Int × Int} (h : lift2 f a b = some r) : ∃ p q, a = some p ∧ b = some q ∧ f p q = some r := by
  unfold lift2 at h
  cases a with
  | none => cases h
  | some p =>
    cases b with
    | none => cases h
    | some q => exact ⟨p, q, rfl, rfl, h⟩
theorem addO_comm (a b : Option (Int × Int)) : addO a b = addO b a := by
  cases a with
  | none => cases b <;> rfl
  | some p =>
    cases b with
    | none => rfl
    | some q =>
      refine redO_same ⟨fun h => ⟨h.2.1, h.1, ?_, ?_⟩, fun h => ⟨h.2.1, h.1, ?_, ?_⟩⟩ (Int.add_comm _ _) (Int.mul_comm _ _)
      · rw [Int.add_comm]; exact h.2.2.1
      · rw [Int.mul_comm]; exact h.2.2.2
      · rw [Int.add_comm]; exact h.2.2.1
      · rw [Int.mul_comm]; exact h.2.2.2
theorem mulO_comm (a b : Option (Int × Int)) : mulO a b = mulO b a := by
  cases a with
  | none => cases b <;> rfl
  | some p =>
    cases b with
    | none => rfl
    | some q => exact redO_same (by rw [Int.mul_comm p.1, Int.mul_comm p.2]) (Int.mul_comm _ _) (Int.mul_comm _ _)
section
variable {a b : Option (Int × Int)} (ha : OkO a) (hb : OkO b) {r : Int × Int}
include ha hb
theorem add_is (h : addO a b = some r) : ∃ p q, a = some p ∧ b = some q ∧ Ok p ∧ Ok q ∧ Ok r ∧ qv r = qv p + qv q := by
  obtain ⟨p, q, h1, h2, h3⟩ := lift2_some h
  exact ⟨p, q, h1, h2, ha p h1, hb q h2, addO_ok a b r h, add_qv (ha p h1) (hb q h2) h3⟩
theorem sub_is (h : subO a b = some r) : ∃ p q, a = some p ∧ b = some q ∧ Ok p ∧ Ok q ∧ Ok r ∧ qv r = qv p - qv q := by
  obtain ⟨p, q, h1, h2, h3⟩ := lift2_some h
  exact ⟨p, q, h1, h2, ha p h1, hb q h2, subO_ok a b r h, sub_qv (ha p h1) (hb q h2) h3⟩
theorem mul_is (h : mulO a b = some r) : ∃ p q, a = some p ∧ b = some q ∧ Ok p ∧ Ok q ∧ Ok r ∧ qv r = qv p * qv q := by
  obtain ⟨p, q, h1, h2, h3⟩ := lift2_some h
  exact ⟨p, q, h1, h2, ha p h1, hb q h2, mulO_ok a b r h, mul_qv h3⟩
theorem div_is (h : divO a b = some r) : ∃ p q, a = some p ∧ b = some q ∧ Ok p ∧ Ok q ∧ Ok r ∧ qv r = qv p / qv q ∧ qv q ≠ 0 := by
  obtain ⟨p, q, h1, h2, h3⟩ := lift2_some h
  obtain ⟨h4, h5⟩ := div_qv (hb q h2) h3
  exact ⟨p, q, h1, h2, ha p h1, hb q h2, divO_ok a b r h, h4, h5⟩
end
section
variable {a b c : Option (Int × Int)} (ha : OkO a) (hb : OkO b) (hc : OkO c)
include ha hb hc
/-- sums are associative, as far as they fit -/
theorem add_assoc (h1 : addO (addO a b) c ≠ none) (h2 : addO a (addO b c) ≠ none) : addO (addO a b) c = addO a (addO b c) := by
  obtain ⟨u, hu⟩ := Option.ne_none_iff_exists'.1 h1
  obtain ⟨v, hv⟩ := Option.ne_none_iff_exists'.1 h2
  obtain ⟨ab, z, e1, e2, _, _, o1, q1⟩ := add_is (addO_ok a b) hc hu
  obtain ⟨x, y, e3, e4, _, _, _, q2⟩ := add_is ha hb e1
  obtain ⟨x', bc, e5, e6, _, _, o2, q3⟩ := add_is ha (addO_ok b c) hv
  obtain ⟨y', z', e7, e8, _, _, _, q4⟩ := add_is hb hc e6
  rw [e3] at e5
  rw [e4] at e7
  rw [e2] at e8
  obtain rfl := Option.some.inj e5
  obtain rfl := Option.some.inj e7
  obtain rfl := Option.some.inj e8
  rw [hu, hv, qv_inj o1 o2 (by rw [q1, q2, q3, q4]; grind)]
theorem mul_assoc (h1 : mulO (mulO a b) c ≠ none) (h2 : mulO a (mulO b c) ≠ none) : mulO (mulO a b) c = mulO a (mulO b c) := by
  obtain ⟨u, hu⟩ := Option.ne_none_iff_exists'.1 h1
  obtain ⟨v, hv⟩ := Option.ne_none_iff_exists'.1 h2
  obtain ⟨ab, z, e1, e2, _, _, o1, q1⟩ := mul_is (mulO_ok a b) hc hu
  obtain ⟨x, y, e3, e4, _, _, _, q2⟩ := mul_is ha hb e1
  obtain ⟨x', bc, e5, e6, _, _, o2, q3⟩ := mul_is ha (mulO_ok b c) hv
  obtain ⟨y', z', e7, e8, _, _, _, q4⟩ := mul_is hb hc e6
  rw [e3] at e5
  rw [e4] at e7
  rw [e2] at e8
  obtain rfl := Option.some.inj e5
  obtain rfl := Option.some.inj e7
  obtain rfl := Option.some.inj e8
  rw [hu, hv, qv_inj o1 o2 (by rw [q1, q2, q3, q4]; grind)]
/-- products distribute over sums -/
theorem add_mul (h1 : addO (mulO a c) (mulO b c) ≠ none) (h2 : mulO (addO a b) c ≠ none) : addO (mulO a c) (mulO b c) = mulO (addO a b) c := by
  obtain ⟨u, hu⟩ := Option.ne_none_iff_exists'.1 h1
  obtain ⟨v, hv⟩ := Option.ne_none_iff_exists'.1 h2
  obtain ⟨ac, bc, e1, e2, _, _, o1, q1⟩ := add_is (mulO_ok a c) (mulO_ok b c) hu
  obtain ⟨x, z, e3, e4, _, _, _, q2⟩ := mul_is ha hc e1
  obtain ⟨y, z', e5, e6, _, _, _, q3⟩ := mul_is hb hc e2
  obtain ⟨ab, z'', e7, e8, _, _, o2, q4⟩ := mul_is (addO_ok a b) hc hv
  obtain ⟨x', y', e9, e10, _, _, _, q5⟩ := add_is ha hb e7
  rw [e3] at e9
  rw [e5] at e10
  rw [e4] at e6 e8
  obtain rfl := Option.some.inj e9
  obtain rfl := Option.some.inj e10
  obtain rfl := Option.some.inj e6
  obtain rfl := Option.some.inj e8
  rw [hu, hv, qv_inj o1 o2 (by rw [q1, q2, q3, q4, q5]; grind)]
end
section
variable {a b : Option (Int × Int)} (ha : OkO a) (hb : OkO b)
include ha hb
/-- differences undo sums -/
theorem sub_add (h : subO (addO a b) b ≠ none) : subO (addO a b) b = a := by
  obtain ⟨u, hu⟩ := Option.ne_none_iff_exists'.1 h
  obtain ⟨ab, y, e1, e2, _, _, o1, q1⟩ := sub_is (addO_ok a b) hb hu
  obtain ⟨x, y', e3, e4, o2, _, _, q2⟩ := add_is ha hb e1
  rw [e2] at e4
  obtain rfl := Option.some.inj e4
  rw [hu, e3, qv_inj o1 o2 (by rw [q1, q2]; grind)]
/-- products undo quotients -/
theorem mul_div (h : mulO (divO a b) b ≠ none) : mulO (divO a b) b = a := by
  obtain ⟨u, hu⟩ := Option.ne_none_iff_exists'.1 h
  obtain ⟨ab, y, e1, e2, _, _, o1, q1⟩ := mul_is (divO_ok a b) hb hu
  obtain ⟨x, y', e3, e4, o2, _, _, q2, q3⟩ := div_is ha hb e1
  rw [e2] at e4
  obtain rfl := Option.some.inj e4
  rw [hu, e3, qv_inj o1 o2 (by rw [q1, q2]; grind)]
end
end Ra
end Go.Proofs.YtlehjmanlccncaaGreatDoor
set_option linter.unusedVariables false
set_option linter.unusedSimpArgs false
namespace Go.Proofs.YtlehjmanlccncaaGreatDoor
open Go.RowKit

namespace Ra
/-- n / d in lowest terms -/
abbrev mkR (n d : Int) : Int × Int := (redN n d, redD n d)
theorem mk_ok {n d : Int} (hd : d ≠ 0) (h1 : In.Fit n) (h2 : In.Fit d) : Ok (mkR n d) := ⟨(red_low hd).1, (red_fit hd h1 h2).1, (red_fit hd h1 h2).2⟩
theorem mk_qv {n d : Int} (hd : d ≠ 0) : qv (mkR n d) = Rat.divInt n d := by
  obtain ⟨h1, h2⟩ := red_low (x := n) hd
  exact (Rat.divInt_eq_divInt_iff (by have := h1.1; dsimp only; omega) hd).2 h2
theorem redN_neg (n d : Int) : redN (-n) d = -redN n d := by
  unfold redN
  rw [gcd_neg_left]
  by_cases hd : d = 0
  · subst hd
    have hg : gcdI n 0 = (n.natAbs : Int) := by unfold gcdI; rw [show (0 : Int).natAbs = 0 from rfl, Nat.gcd_zero_right]
    rw [hg, if_neg (by decide), if_neg (by decide)]
    rcases Int.natAbs_eq n with h | h
    · by_cases h0 : n = 0
      · subst h0; rfl
      · rw [← h, Int.neg_ediv_self _ h0, Int.ediv_self h0]
    · by_cases h0 : n = 0
      · subst h0; rfl
      · have e : ((n.natAbs : Nat) : Int) = -n := by omega
        rw [e, Int.ediv_self (by omega), Int.ediv_neg, Int.ediv_self h0]
        rfl
  · obtain ⟨p, hp⟩ := gcd_left n d
    have hg := gcd_ne (x := n) hd
    have e : -n / gcdI n d = -(n / gcdI n d) := Int.neg_ediv_of_dvd ⟨p, hp⟩
    rw [e]
    split <;> rfl
theorem redD_neg (n d : Int) : redD (-n) d = redD n d := by unfold redD; rw [gcd_neg_left]
theorem mk_neg (n d : Int) : mkR (-n) d = (-(mkR n d).1, (mkR n d).2) := by
  show (redN (-n) d, redD (-n) d) = _
  rw [redN_neg, redD_neg]
theorem mk_self {p : Int × Int} (h : Ok p) : mkR p.1 p.2 = p := by
  obtain ⟨h1, h2⟩ := red_self h.low
  show (redN p.1 p.2, redD p.1 p.2) = p
  rw [h1, h2]
theorem neg_ok {p : Int × Int} (h : Ok p) : Ok (-p.1, p.2) := ⟨⟨h.low.1, by rw [gcd_neg_left]; exact h.low.2⟩, by show Int.natAbs (-p.1) < _; rw [Int.natAbs_neg]; exact h.num, h.den⟩
theorem zero_ok : Ok (0, 1) := ⟨⟨by decide, by decide⟩, by decide, by decide⟩
theorem one_ok : Ok (1, 1) := ⟨⟨by decide, by decide⟩, by decide, by decide⟩
/-- 0 minus a fraction -/
theorem minus_is {p : Int × Int} (h : Ok p) : subO (some (0, 1)) (some p) = some (-p.1, p.2) := by
  show redO _ (0 * p.2 - p.1 * 1) (1 * p.2) = _
  have e1 : 0 * p.2 - p.1 * 1 = -p.1 := by omega
  have e2 : 1 * p.2 = p.2 := by omega
  have e3 : p.1 * 1 = p.1 := by omega
  have fneg := (neg_ok h).num
  rw [redO_is ⟨by show Int.natAbs (0 * p.2) < _; rw [Int.zero_mul]; decide, by show In.Fit (p.1 * 1); rw [e3]; exact h.num, by show In.Fit (0 * p.2 - p.1 * 1); rw [e1]; exact fneg, by show In.Fit (1 * p.2); rw [e2]; exact h.den⟩ (by rw [e2]; exact ok_ne h)]
  rw [e1, e2]
  have := mk_self (neg_ok h)
  exact congrArg some this
theorem ten_pos (k : Nat) : 0 < (10 : Int) ^ k := Int.pow_pos (by decide)
/-- a grid: sizes -/
structure Gr (p : Int × Int) (k : Nat) : Prop where
  ok : Ok p
  num : p.1.natAbs < 10 ^ 100
  den : p.2.natAbs < 10 ^ 100
  le : k ≤ 30
section
variable {p : Int × Int} {k : Nat} (h : Gr p k)
include h
theorem Gr.Tabs : ((10 : Int) ^ k).natAbs < 10 ^ 31 := by
  rw [Int.natAbs_pow]
  exact Nat.pow_lt_pow_right (by decide) (by have := h.le; omega)
theorem Gr.top : (p.1 * 10 ^ k).natAbs < 10 ^ 131 := by
  rw [Int.natAbs_mul]
  exact Nat.lt_of_lt_of_le (Nat.mul_lt_mul'' h.num h.Tabs) (by rw [← Nat.pow_add]; exact Nat.le_refl _)
theorem Gr.quo : (p.1 * 10 ^ k / p.2).natAbs < 10 ^ 131 := Nat.lt_of_le_of_lt (Int.natAbs_ediv_le_natAbs _ _) h.top
theorem Gr.quo1 : (p.1 * 10 ^ k / p.2 + 1).natAbs < 10 ^ 132 := by
  have h1 := h.quo
  have h2 : (10 : Nat) ^ 132 = 10 ^ 131 * 10 := Nat.pow_succ 10 131
  omega
/-- how much is added by rounding up -/
def up1 (p : Int × Int) (k : Nat) : Int := if p.1 * 10 ^ k % p.2 ≠ 0 then 1 else 0
theorem Gr.quoU : (p.1 * 10 ^ k / p.2 + up1 p k).natAbs < 10 ^ 132 := by
  unfold up1
  split
  · exact h.quo1
  · have h1 := h.quo
    have h2 : (10 : Nat) ^ 132 = 10 ^ 131 * 10 := Nat.pow_succ 10 131
    omega
theorem Gr.down : roundP false p k = some (mkR (p.1 * 10 ^ k / p.2) (10 ^ k)) := by
  unfold roundP
  rw [if_pos (In.fit_of h.top (by decide)), if_neg (by simp), redO_is trivial (by have := ten_pos k; omega)]
theorem Gr.up : roundP true p k = some (mkR (p.1 * 10 ^ k / p.2 + up1 p k) (10 ^ k)) := by
  unfold roundP up1
  rw [if_pos (In.fit_of h.top (by decide))]
  by_cases h0 : p.1 * 10 ^ k % p.2 ≠ 0
  · rw [if_pos ⟨rfl, h0⟩, if_pos h0, redO_is (In.fit_of h.quo1 (by decide)) (by have := ten_pos k; omega)]
  · rw [if_neg (fun k => h0 k.2), if_neg h0, redO_is trivial (by have := ten_pos k; omega), Int.add_zero]
theorem Gr.neg : Gr (-p.1, p.2) k := ⟨neg_ok h.ok, by show Int.natAbs (-p.1) < _; rw [Int.natAbs_neg]; exact h.num, h.den, h.le⟩
/-- the floor of what is negative -/
theorem Gr.floor_neg : (-p.1) * 10 ^ k / p.2 = -(p.1 * 10 ^ k / p.2 + up1 p k) := by
  have hy := h.ok.low.1
  rw [Int.neg_mul]
  generalize hX : p.1 * 10 ^ k = X
  unfold up1
  rw [hX]
  have h1 := Int.emod_add_ediv_mul X p.2
  have h2 := Int.emod_nonneg X (show p.2 ≠ 0 by omega)
  have h3 := Int.emod_lt_of_pos X hy
  by_cases h0 : X % p.2 ≠ 0
  · rw [if_pos h0]
    refine ((Int.ediv_emod_unique (a := -X) (b := p.2) (r := p.2 - X % p.2) (q := -(X / p.2 + 1)) hy).2 ⟨?_, by omega, by omega⟩).1
    have e : p.2 * -(X / p.2 + 1) = -(X / p.2 * p.2) - p.2 := by grind
    rw [e]
    omega
  · rw [if_neg h0]
    have h0' : X % p.2 = 0 := by omega
    refine ((Int.ediv_emod_unique (a := -X) (b := p.2) (r := 0) (q := -(X / p.2 + 0)) hy).2 ⟨?_, by omega, by omega⟩).1
    have e : p.2 * -(X / p.2 + 0) = -(X / p.2 * p.2) := by grind
    rw [e]
    omega
end
/-- what lies on the grid stays -/
theorem grid_stays {m : Int} {k : Nat} (hk : k ≤ 30) (hm : m.natAbs < 10 ^ 132) (up : Bool) : roundP up (mkR m (10 ^ k)) k = some (mkR m (10 ^ k)) := by
  have hT : (0 : Int) < 10 ^ k := Int.pow_pos (by decide)
  obtain ⟨⟨h1, h2⟩, h3⟩ := red_low (x := m) (show (10 : Int) ^ k ≠ 0 by omega)
  have hle := (red_le (x := m) (show (10 : Int) ^ k ≠ 0 by omega)).1
  have hTa : ((10 : Int) ^ k).natAbs < 10 ^ 31 := by
    rw [Int.natAbs_pow]
    exact Nat.pow_lt_pow_right (by decide) (by omega)
  have hfit : In.Fit ((mkR m (10 ^ k)).1 * 10 ^ k) := by
    show Int.natAbs (redN m (10 ^ k) * 10 ^ k) < 10 ^ 200
    rw [Int.natAbs_mul]
    have h4 := Nat.mul_lt_mul'' (Nat.lt_of_le_of_lt hle hm) hTa
    rw [← Nat.pow_add] at h4
    exact Nat.lt_of_lt_of_le h4 (Nat.pow_le_pow_right (by decide) (by decide))
  have e1 : (mkR m (10 ^ k)).1 * 10 ^ k / (mkR m (10 ^ k)).2 = m := by
    show redN m (10 ^ k) * 10 ^ k / redD m (10 ^ k) = m
    rw [h3]
    exact Int.mul_ediv_cancel _ (by omega)
  have e2 : (mkR m (10 ^ k)).1 * 10 ^ k % (mkR m (10 ^ k)).2 = 0 := by
    show redN m (10 ^ k) * 10 ^ k % redD m (10 ^ k) = 0
    rw [h3]
    exact Int.mul_emod_left _ _
  unfold roundP
  rw [if_pos hfit, e1, e2, if_neg (fun k => k.2 rfl), redO_is trivial (by omega)]
theorem divInt_le {a b c d : Int} (hb : 0 < b) (hd : 0 < d) : Rat.divInt a b ≤ Rat.divInt c d ↔ a * d ≤ c * b := by
  rw [Rat.le_iff_sub_nonneg, Rat.divInt_sub_divInt _ _ (show d ≠ 0 by omega) (show b ≠ 0 by omega), Rat.divInt_nonneg_iff_of_pos_right (Int.mul_pos hd hb)]
  omega
theorem divInt_lt {a b c d : Int} (hb : 0 < b) (hd : 0 < d) : Rat.divInt a b < Rat.divInt c d ↔ a * d < c * b := by
  rw [← Rat.not_le, divInt_le hd hb]
  omega
section
variable {p : Int × Int} {k : Nat} (h : Gr p k)
include h
theorem Gr.okD : Ok (mkR (p.1 * 10 ^ k / p.2) (10 ^ k)) := mk_ok (by have := ten_pos k; omega) (In.fit_of h.quo (by decide)) (In.fit_of h.Tabs (by decide))
theorem Gr.okU : Ok (mkR (p.1 * 10 ^ k / p.2 + up1 p k) (10 ^ k)) := mk_ok (by have := ten_pos k; omega) (In.fit_of h.quoU (by decide)) (In.fit_of h.Tabs (by decide))
/-- below, and exact exactly if nothing is lost -/
theorem Gr.below : cmpR (qv (mkR (p.1 * 10 ^ k / p.2) (10 ^ k))) (qv p) = if p.1 * 10 ^ k % p.2 = 0 then 0 else -1 := by
  have hT := ten_pos k
  have hy := h.ok.low.1
  rw [mk_qv (by omega)]
  have h1 := Int.emod_add_ediv_mul (p.1 * 10 ^ k) p.2
  have h2 := Int.emod_nonneg (p.1 * 10 ^ k) (show p.2 ≠ 0 by omega)
  unfold cmpR
  show (if Rat.divInt _ _ < Rat.divInt p.1 p.2 then (-1 : Int) else if Rat.divInt p.1 p.2 < Rat.divInt _ _ then 1 else 0) = _
  by_cases h0 : p.1 * 10 ^ k % p.2 = 0
  · rw [if_pos h0, if_neg (fun k => by have := (divInt_lt hT hy).1 k; omega), if_neg (fun k => by have := (divInt_lt hy hT).1 k; omega)]
  · rw [if_neg h0, if_pos ((divInt_lt hT hy).2 (by omega))]
/-- above, and exact exactly if nothing is lost -/
theorem Gr.above : cmpR (qv (mkR (p.1 * 10 ^ k / p.2 + up1 p k) (10 ^ k))) (qv p) = if p.1 * 10 ^ k % p.2 = 0 then 0 else 1 := by
  have hT := ten_pos k
  have hy := h.ok.low.1
  rw [mk_qv (by omega)]
  have h1 := Int.emod_add_ediv_mul (p.1 * 10 ^ k) p.2
  have h2 := Int.emod_lt_of_pos (p.1 * 10 ^ k) hy
  unfold cmpR up1
  show (if Rat.divInt _ _ < Rat.divInt p.1 p.2 then (-1 : Int) else if Rat.divInt p.1 p.2 < Rat.divInt _ _ then 1 else 0) = _
  by_cases h0 : p.1 * 10 ^ k % p.2 = 0
  · rw [if_pos h0, if_neg (show ¬ p.1 * 10 ^ k % p.2 ≠ 0 by omega), Int.add_zero, if_neg (fun k => by have := (divInt_lt hT hy).1 k; omega), if_neg (fun k => by have := (divInt_lt hy hT).1 k; omega)]
  · rw [if_neg h0, if_pos h0]
    have e : (p.1 * 10 ^ k / p.2 + 1) * p.2 = p.1 * 10 ^ k / p.2 * p.2 + p.2 := by rw [Int.add_mul, Int.one_mul]
    rw [if_neg (fun k => by have := (divInt_lt hT hy).1 k; omega), if_pos ((divInt_lt hy hT).2 (by omega))]
/-- the width of the grid -/
theorem Gr.width : subO (some (mkR (p.1 * 10 ^ k / p.2 + up1 p k) (10 ^ k))) (some (mkR (p.1 * 10 ^ k / p.2) (10 ^ k))) = some (if p.1 * 10 ^ k % p.2 = 0 then (0, 1) else (1, 10 ^ k)) := by
  have hT := ten_pos k
  have o1 := h.okU
  have o2 := h.okD
  have l1 := red_le (x := p.1 * 10 ^ k / p.2 + up1 p k) (show (10 : Int) ^ k ≠ 0 by omega)
  have l2 := red_le (x := p.1 * 10 ^ k / p.2) (show (10 : Int) ^ k ≠ 0 by omega)
  have s1 := Nat.lt_of_le_of_lt l1.1 h.quoU
  have s2 := Nat.lt_of_le_of_lt l1.2 h.Tabs
  have s3 := Nat.lt_of_le_of_lt l2.1 h.quo
  have s4 := Nat.lt_of_le_of_lt l2.2 h.Tabs
  have f1 := In.abs_mul s1 s4
  have f2 := In.abs_up (In.abs_mul s3 s2) (l := 132 + 31) (by decide)
  have f3 := In.abs_sub f1 f2
  have f4 := In.abs_mul s2 s4
  have hs : subO (some (mkR (p.1 * 10 ^ k / p.2 + up1 p k) (10 ^ k))) (some (mkR (p.1 * 10 ^ k / p.2) (10 ^ k))) ≠ none := by
    show redO _ _ _ ≠ none
    rw [redO_is ⟨In.fit_of f1 (by decide), In.fit_of f2 (by decide), In.fit_of f3 (by decide), In.fit_of f4 (by decide)⟩ (Int.mul_ne_zero (ok_ne o1) (ok_ne o2))]
    exact fun h => by cases h
  obtain ⟨u, hu⟩ := Option.ne_none_iff_exists'.1 hs
  obtain ⟨a, b, e1, e2, _, _, ou, qu⟩ := sub_is (fun _ h => by obtain rfl := Option.some.inj h; exact o1) (fun _ h => by obtain rfl := Option.some.inj h; exact o2) hu
  obtain rfl := Option.some.inj e1
  obtain rfl := Option.some.inj e2
  rw [mk_qv (show (10 : Int) ^ k ≠ 0 by omega), mk_qv (show (10 : Int) ^ k ≠ 0 by omega), Rat.divInt_sub_divInt _ _ (by omega) (by omega)] at qu
  rw [hu]
  congr 1
  unfold up1 at qu
  by_cases h0 : p.1 * 10 ^ k % p.2 = 0
  · rw [if_pos h0]
    rw [if_neg (show ¬ p.1 * 10 ^ k % p.2 ≠ 0 by omega)] at qu
    refine qv_inj ou zero_ok ?_
    rw [qu]
    refine (Rat.divInt_eq_divInt_iff (Int.mul_ne_zero (by omega) (by omega)) (by decide)).2 ?_
    grind
  · rw [if_neg h0]
    rw [if_pos h0] at qu
    have hone : Ok (1, (10 : Int) ^ k) := ⟨⟨hT, by unfold gcdI; rw [show (1 : Int).natAbs = 1 from rfl, Nat.gcd_one_left]; rfl⟩, show In.Fit 1 by decide, In.fit_of h.Tabs (by decide)⟩
    refine qv_inj ou hone ?_
    rw [qu]
    refine (Rat.divInt_eq_divInt_iff (Int.mul_ne_zero (by omega) (by omega)) (by omega)).2 ?_
    grind
/-- the number of steps of the grid -/
theorem Gr.steps : mulO (some (mkR (p.1 * 10 ^ k / p.2) (10 ^ k))) (some (10 ^ k, 1)) = some (p.1 * 10 ^ k / p.2, 1) := by
  have hT := ten_pos k
  have o2 := h.okD
  have l2 := red_le (x := p.1 * 10 ^ k / p.2) (show (10 : Int) ^ k ≠ 0 by omega)
  have s3 := Nat.lt_of_le_of_lt l2.1 h.quo
  have s4 := Nat.lt_of_le_of_lt l2.2 h.Tabs
  have f1 := In.abs_mul s3 h.Tabs
  obtain ⟨h1, h3⟩ := red_low (x := p.1 * 10 ^ k / p.2) (show (10 : Int) ^ k ≠ 0 by omega)
  show redO _ _ _ = _
  rw [redO_is ⟨In.fit_of f1 (by decide), by show In.Fit ((mkR (p.1 * 10 ^ k / p.2) (10 ^ k)).2 * 1); rw [Int.mul_one]; exact In.fit_of s4 (by decide)⟩ (by show (mkR (p.1 * 10 ^ k / p.2) (10 ^ k)).2 * 1 ≠ 0; rw [Int.mul_one]; exact ok_ne o2)]
  have e := red_eq (a := redN (p.1 * 10 ^ k / p.2) (10 ^ k) * 10 ^ k) (b := redD (p.1 * 10 ^ k / p.2) (10 ^ k) * 1) (c := p.1 * 10 ^ k / p.2) (d := 1) (by rw [Int.mul_one]; exact ok_ne o2) (by decide) (by rw [h3]; grind)
  have hl : Low (p.1 * 10 ^ k / p.2) 1 := ⟨by decide, by unfold gcdI; rw [show (1 : Int).natAbs = 1 from rfl, Nat.gcd_one_right]; rfl⟩
  have e2 := red_self hl
  rw [e2.1, e2.2] at e
  show some (redN _ _, redD _ _) = _
  rw [e.1, e.2]
end
end Ra
end Go.Proofs.YtlehjmanlccncaaGreatDoor
set_option linter.unusedVariables false
set_option linter.unusedSimpArgs false
namespace Go.Proofs.YtlehjmanlccncaaGreatDoor
open Go.RowKit

namespace Ra
theorem okO_some {p : Int × Int} (h : Ok p) : OkO (some p) := fun _ e => by obtain rfl := Option.some.inj e; exact h
theorem cmp_rat {p q : Int × Int} (hp : Ok p) (hq : Ok q) : cmpO (some p) (some q) = cmpR (qv p) (qv q) := cmp_qv hp hq
theorem cmp_eq {p q : Int × Int} (hp : Ok p) (hq : Ok q) : cmpO (some p) (some q) = 0 ↔ p = q := by
  rw [cmp_rat hp hq, cmpR_zero]
  exact ⟨qv_inj hp hq, fun h => by rw [h]⟩
theorem cmp_turn {p q : Int × Int} (hp : Ok p) (hq : Ok q) : cmpO (some q) (some p) = -cmpO (some p) (some q) := by rw [cmp_rat hp hq, cmp_rat hq hp, cmpR_turn]
theorem cmp_in {p q : Int × Int} (hp : Ok p) (hq : Ok q) : -1 ≤ cmpO (some p) (some q) ∧ cmpO (some p) (some q) ≤ 1 := by rw [cmp_rat hp hq]; exact cmpR_in _ _
theorem cmp_trans {p q r : Int × Int} (hp : Ok p) (hq : Ok q) (hr : Ok r) (h1 : cmpO (some p) (some q) ≤ 0) (h2 : cmpO (some q) (some r) ≤ 0) : cmpO (some p) (some r) ≤ 0 := by
  rw [cmp_rat hp hq, cmpR_le] at h1
  rw [cmp_rat hq hr, cmpR_le] at h2
  rw [cmp_rat hp hr, cmpR_le]
  grind
theorem cmp_trans_lt {p q r : Int × Int} (hp : Ok p) (hq : Ok q) (hr : Ok r) (h1 : cmpO (some p) (some q) ≤ 0) (h2 : cmpO (some q) (some r) < 0) : cmpO (some p) (some r) < 0 := by
  rw [cmp_rat hp hq, cmpR_le] at h1
  rw [cmp_rat hq hr, cmpR_lt] at h2
  rw [cmp_rat hp hr, cmpR_lt]
  grind
theorem qv_00 : qv (0, 1) = 0 := rfl
/-- the sign of the difference -/
theorem cmp_sub {p q d : Int × Int} (hp : Ok p) (hq : Ok q) (h : subO (some p) (some q) = some d) : cmpO (some d) (some (0, 1)) = cmpO (some p) (some q) := by
  have hd := subO_ok _ _ d h
  rw [cmp_rat hd zero_ok, cmp_rat hp hq, sub_qv hp hq h, qv_00, cmpR_sub]
theorem cmp_add {p q t u v : Int × Int} (hp : Ok p) (hq : Ok q) (ht : Ok t) (h1 : addO (some p) (some t) = some u) (h2 : addO (some q) (some t) = some v) : cmpO (some u) (some v) = cmpO (some p) (some q) := by
  rw [cmp_rat (addO_ok _ _ u h1) (addO_ok _ _ v h2), cmp_rat hp hq, add_qv hp ht h1, add_qv hq ht h2, cmpR_add]
theorem cmp_mul {p q t u v : Int × Int} (hp : Ok p) (hq : Ok q) (ht : Ok t) (h1 : mulO (some p) (some t) = some u) (h2 : mulO (some q) (some t) = some v) : cmpO (some u) (some v) = cmpO (some p) (some q) * cmpO (some t) (some (0, 1)) := by
  rw [cmp_rat (mulO_ok _ _ u h1) (mulO_ok _ _ v h2), cmp_rat hp hq, cmp_rat ht zero_ok, mul_qv h1, mul_qv h2, qv_00, cmpR_mul]
/-! ### lowest terms -/
theorem makeS_txt {x y : Int} (hx : In.Fit x) (hy : In.Fit y) (h : y ≠ 0) : makeS (In.txt x) (In.txt y) = some (mkR x y) := by
  unfold makeS
  rw [In.num_fit hx, In.num_fit hy]
  exact redO_is trivial h
theorem mk_scale {p : Int × Int} (h : Ok p) {k : Int} (hk : k ≠ 0) : mkR (p.1 * k) (p.2 * k) = p := by
  have e := red_eq (a := p.1 * k) (b := p.2 * k) (c := p.1) (d := p.2) (Int.mul_ne_zero (ok_ne h) hk) (ok_ne h) (by grind)
  have e2 := red_self h.low
  show (redN _ _, redD _ _) = p
  rw [e.1, e.2, e2.1, e2.2]
theorem mk_zero {k : Int} (hk : k ≠ 0) : mkR 0 k = (0, 1) := by
  have e := red_eq (a := 0) (b := k) (c := 0) (d := 1) hk (by decide) (by omega)
  have e2 := red_self zero_ok.low
  show (redN _ _, redD _ _) = _
  rw [e.1, e.2, e2.1, e2.2]
/-! ### limits -/
theorem ten_low (n : Nat) : Low (10 ^ n) 1 := ⟨by decide, by unfold gcdI; rw [show (1 : Int).natAbs = 1 from rfl, Nat.gcd_one_right]; rfl⟩
theorem ten_low' (n : Nat) : Low 1 (10 ^ n) := ⟨ten_pos n, by unfold gcdI; rw [show (1 : Int).natAbs = 1 from rfl, Nat.gcd_one_left]; rfl⟩
theorem fit_ten {n : Nat} : In.Fit (10 ^ n) ↔ n < 200 := by
  show Int.natAbs (10 ^ n) < 10 ^ 200 ↔ _
  rw [Int.natAbs_pow]
  exact Nat.pow_lt_pow_iff_right (by decide)
theorem ten_ok {n : Nat} (h : n < 200) : Ok (10 ^ n, 1) := ⟨ten_low n, fit_ten.2 h, by show In.Fit 1; decide⟩
theorem ten_ok' {n : Nat} (h : n < 200) : Ok (1, 10 ^ n) := ⟨ten_low' n, by show In.Fit 1; decide, fit_ten.2 h⟩
theorem ten_mul {n m : Nat} : mulO (some (10 ^ n, 1)) (some (10 ^ m, 1)) = if n + m < 200 then some (10 ^ (n + m), 1) else none := by
  show redO _ (10 ^ n * 10 ^ m) (1 * 1) = _
  by_cases h : n + m < 200
  · rw [if_pos h, redO_is ⟨by show In.Fit (10 ^ n * 10 ^ m); rw [← Int.pow_add]; exact fit_ten.2 h, by show In.Fit (1 * 1); decide⟩ (by decide)]
    have e2 := red_self (ten_low (n + m))
    rw [← Int.pow_add, show (1 : Int) * 1 = 1 from rfl, e2.1, e2.2]
  · rw [if_neg h]
    refine if_neg fun k => h ?_
    have := k.1.1
    rw [← Int.pow_add] at this
    exact fit_ten.1 this
theorem ten_div {m : Nat} (h : m < 200) : divO (some (1, 1)) (some (10 ^ m, 1)) = some (1, 10 ^ m) := by
  show redO _ (1 * 1) (1 * 10 ^ m) = _
  rw [Int.one_mul, Int.one_mul, redO_is ⟨by show In.Fit (1 * 1); decide, by first | exact fit_ten.2 h | (show In.Fit (1 * 10 ^ m); rw [Int.one_mul]; exact fit_ten.2 h)⟩ (by have := ten_pos m; omega)]
  have e2 := red_self (ten_low' m)
  rw [e2.1, e2.2]
theorem ten_add {n m : Nat} (h : m < 200) : (addO (some (10 ^ n, 1)) (some (1, 10 ^ m)) ≠ none) ↔ n + m < 200 := by
  constructor
  · intro k
    obtain ⟨u, hu⟩ := Option.ne_none_iff_exists'.1 k
    have h2 := (redO_qv (show redO _ (10 ^ n * 10 ^ m + 1 * 1) (1 * 10 ^ m) = some u from hu)).1.1
    rw [show ((10 : Int) ^ n, (1 : Int)).1 * ((1 : Int), (10 : Int) ^ m).2 = 10 ^ (n + m) by rw [← Int.pow_add]] at h2
    exact fit_ten.1 h2
  · intro k
    have hle : (10 : Nat) ^ (n + m) ≤ 10 ^ 199 := Nat.pow_le_pow_right (by decide) (by omega)
    have h200 : (10 : Nat) ^ 200 = 10 ^ 199 * 10 := Nat.pow_succ 10 199
    have h199 : 1 ≤ (10 : Nat) ^ 199 := Nat.pow_pos (by decide)
    have hab : ((10 : Int) ^ (n + m)).natAbs = 10 ^ (n + m) := by rw [Int.natAbs_pow]; rfl
    have hs : In.Fit ((10 : Int) ^ (n + m) + 1) := by
      show Int.natAbs _ < 10 ^ 200
      have := Int.natAbs_add_le ((10 : Int) ^ (n + m)) 1
      rw [hab] at this
      rw [h200]
      have h1 : (1 : Int).natAbs = 1 := rfl
      omega
    show redO _ _ _ ≠ none
    rw [redO_is ⟨by show In.Fit (10 ^ n * 10 ^ m); rw [← Int.pow_add]; exact fit_ten.2 k, by show In.Fit (1 * 1); decide, by show In.Fit (10 ^ n * 10 ^ m + 1 * 1); rw [← Int.pow_add]; exact hs, by show In.Fit (1 * 10 ^ m); rw [Int.one_mul]; exact fit_ten.2 h⟩ (by show (1 : Int) * 10 ^ m ≠ 0; have := ten_pos m; omega)]
    exact fun e => by cases e
theorem ten_cmp (n m : Nat) : cmpO (some (10 ^ n, 1)) (some (10 ^ m, 1)) = if n < m then -1 else if m < n then 1 else 0 := by
  show In.cmpZ (10 ^ n * 1) (10 ^ m * 1) = _
  rw [Int.mul_one, Int.mul_one]
  unfold In.cmpZ
  have key : ∀ {a b : Nat}, (10 : Int) ^ a < 10 ^ b ↔ a < b := by
    intro a b
    have h := Nat.pow_lt_pow_iff_right (a := 10) (n := a) (m := b) (by decide)
    rw [← h]
    have e1 : ((10 ^ a : Nat) : Int) = (10 : Int) ^ a := by push_cast; rfl
    have e2 : ((10 ^ b : Nat) : Int) = (10 : Int) ^ b := by push_cast; rfl
    rw [← e1, ← e2]
    omega
  by_cases h : n < m
  · rw [if_pos (key.2 h), if_pos h]
  · rw [if_neg (fun k => h (key.1 k)), if_neg h]
    by_cases h' : m < n
    · rw [if_pos (key.2 h'), if_pos h']
    · rw [if_neg (fun k => h' (key.1 k)), if_neg h']
theorem ten_above (n m : Nat) : cmpO (some (10 ^ n, 1)) (some (1, 10 ^ m)) = if n + m = 0 then 0 else 1 := by
  show In.cmpZ (10 ^ n * 10 ^ m) (1 * 1) = _
  rw [← Int.pow_add]
  have h1 := ten_cmp (n + m) 0
  have h2 : In.cmpZ (10 ^ (n + m) * 1) (10 ^ 0 * 1) = if n + m < 0 then -1 else if 0 < n + m then 1 else 0 := h1
  rw [Int.mul_one, Int.mul_one, Int.pow_zero] at h2
  rw [show (1 : Int) * 1 = 1 from rfl, h2, if_neg (by omega)]
  by_cases h : n + m = 0
  · rw [if_pos h, if_neg (by omega)]
  · rw [if_neg h, if_pos (by omega)]
end Ra
end Go.Proofs.YtlehjmanlccncaaGreatDoor
