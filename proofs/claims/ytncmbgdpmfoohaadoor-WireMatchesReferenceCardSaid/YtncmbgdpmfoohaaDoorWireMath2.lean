/- Integers and strings as bytes: plain mathematics. -/
namespace Go.Proofs.YtncmbgdpmfoohaaDoor

def maxI : Int := 4611686018427387903
/-- an integer as a natural number, and back -/
def foldZ (n : Int) : Nat := if n < 0 then (-2 * n - 1).toNat else (2 * n).toNat
def unZ (z : Nat) : Int := if (z : Int) % 2 = 1 then -((z : Int) / 2) - 1 else (z : Int) / 2
theorem un_fold (n : Int) : unZ (foldZ n) = n := by
  unfold unZ foldZ
  by_cases h : n < 0 <;> simp only [h, if_true, if_false] <;> split <;> omega
theorem fold_un (z : Nat) : foldZ (unZ z) = z := by
  unfold unZ foldZ
  split <;> split <;> omega
theorem foldZ_bd {n : Int} (h1 : -maxI ≤ n) (h2 : n ≤ maxI) : foldZ n < 9223372036854775807 := by
  unfold maxI at *
  unfold foldZ
  split <;> omega

/-- groups of seven bits -/
def encB (z : Nat) : List UInt8 := if z < 128 then [UInt8.ofNat z] else UInt8.ofNat (z % 128 + 128) :: encB (z / 128)
theorem encB_lt {z : Nat} (h : z < 128) : encB z = [UInt8.ofNat z] := by rw [encB, if_pos h]
theorem encB_ge {z : Nat} (h : ¬ z < 128) : encB z = UInt8.ofNat (z % 128 + 128) :: encB (z / 128) := by rw [encB, if_neg h]
theorem encB_ne (z : Nat) : encB z ≠ [] := by
  by_cases h : z < 128
  · rw [encB_lt h]; simp
  · rw [encB_ge h]; simp
theorem encB_len : ∀ (k z : Nat), z < 128 ^ (k + 1) → (encB z).length ≤ k + 1
  | 0, z, h => by rw [encB_lt (by simpa using h)]; simp
  | k + 1, z, h => by
    by_cases hz : z < 128
    · rw [encB_lt hz]; simp
    · rw [encB_ge hz]
      have := encB_len k (z / 128) (by rw [Nat.pow_succ] at h; omega)
      simp; omega
/-- what is returned for an integer -/
def putR (n : Int) : List UInt8 × Int := if -maxI ≤ n ∧ n ≤ maxI then (encB (foldZ n), 0) else ([], 10)

/-- what is read, group by group -/
def dec : List UInt8 → Nat → Nat → Option (Int × Nat)
  | [], _, _ => none
  | b :: l, i, z => if 9 ≤ i then none else if 128 ≤ b.toNat then dec l (i + 1) (z + b.toNat % 128 * 128 ^ i) else
    if (b.toNat = 0 ∧ 0 < i) ∨ unZ (z + b.toNat % 128 * 128 ^ i) < -maxI then none else some (unZ (z + b.toNat % 128 * 128 ^ i), i + 1)

theorem dec_enc : ∀ (k z i z0 : Nat) (q : List UInt8), z < 128 ^ (k + 1) → i + k ≤ 8 → (0 < i → 0 < z) → -maxI ≤ unZ (z0 + z * 128 ^ i) →
    dec (encB z ++ q) i z0 = some (unZ (z0 + z * 128 ^ i), i + (encB z).length)
  | k, z, i, z0, q, hz, hi, h0, hb => by
    by_cases h : z < 128
    · rw [encB_lt h]
      have e : (UInt8.ofNat z).toNat = z := by rw [UInt8.toNat_ofNat']; omega
      simp only [List.cons_append, List.nil_append, dec, e, Nat.mod_eq_of_lt h, List.length_cons, List.length_nil]
      rw [if_neg (by omega), if_neg (by omega), if_neg (by omega)]
    · cases k with
      | zero => omega
      | succ k =>
        have e : (UInt8.ofNat (z % 128 + 128)).toNat = z % 128 + 128 := by rw [UInt8.toNat_ofNat']; omega
        have hs : z0 + z % 128 * 128 ^ i + z / 128 * 128 ^ (i + 1) = z0 + z * 128 ^ i := by
          rw [Nat.pow_succ, Nat.add_assoc, show z / 128 * (128 ^ i * 128) = (128 * (z / 128)) * 128 ^ i by ac_rfl, ← Nat.add_mul, Nat.mod_add_div]
        rw [encB_ge h]
        simp only [List.cons_append, dec, e]
        rw [if_neg (by omega), if_pos (by omega), show (z % 128 + 128) % 128 = z % 128 by omega,
          dec_enc k (z / 128) (i + 1) _ q (by rw [Nat.pow_succ] at hz; omega) (by omega) (by omega) (by rw [hs]; exact hb), hs]
        simp; omega

theorem enc_dec : ∀ (l : List UInt8) (i z0 : Nat) (n : Int) (k : Nat), dec l i z0 = some (n, k) → ∃ z, n = unZ (z0 + z * 128 ^ i) ∧ -maxI ≤ n ∧ z < 128 ^ (9 - i) ∧ i ≤ 8 ∧ (0 < i → 0 < z) ∧ i < k ∧ k ≤ i + l.length ∧ l.take (k - i) = encB z
  | [], _, _, _, _, h => by cases h
  | b :: l, i, z0, n, k, h => by
    simp only [dec] at h
    split at h
    · cases h
    rename_i hi
    have hb := b.toNat_lt
    split at h
    · rename_i h1
      obtain ⟨z, e1, e2, e3, e4, e5, e6, e7, e8⟩ := enc_dec l (i + 1) _ n k h
      refine ⟨b.toNat % 128 + 128 * z, ?_, e2, ?_, by omega, by omega, by omega, by simp; omega, ?_⟩
      · rw [e1, Nat.pow_succ, Nat.add_mul, Nat.add_assoc, show 128 * z * 128 ^ i = z * (128 ^ i * 128) by ac_rfl]
      · rw [show 9 - i = 9 - (i + 1) + 1 by omega, Nat.pow_succ]; omega
      · rw [show k - i = (k - (i + 1)) + 1 by omega, List.take_succ_cons, e8, @encB_ge (b.toNat % 128 + 128 * z) (by omega), show (b.toNat % 128 + 128 * z) % 128 + 128 = b.toNat by omega, show (b.toNat % 128 + 128 * z) / 128 = z by omega]
        simp
    · rename_i h1
      split at h
      · cases h
      rename_i h2
      simp only [Option.some.injEq, Prod.mk.injEq] at h
      obtain ⟨rfl, rfl⟩ := h
      rw [Nat.mod_eq_of_lt (by omega)] at *
      refine ⟨b.toNat, rfl, by omega, ?_, by omega, by omega, by omega, by simp, ?_⟩
      · exact Nat.lt_of_lt_of_le (by omega : b.toNat < 128 ^ 1) (Nat.pow_le_pow_right (by decide) (by omega))
      · rw [show i + 1 - i = 1 by omega, encB_lt (by omega)]
        simp
end Go.Proofs.YtncmbgdpmfoohaaDoor
