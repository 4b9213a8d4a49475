/- Checksums as plain mathematics: a register of bits, fed with a number's bits. -/
namespace Go.Proofs.YtncmbgdpmfoohaaDoor

/-- one bit of the register goes out -/
def crcBit (r : Nat) : Nat := r / 2 ^^^ (if r % 2 = 1 then 2197175160 else 0)
def crcN : Nat → Nat → Nat
  | 0, r => r
  | n + 1, r => crcN n (crcBit r)

theorem crcBit_xor (a b : Nat) : crcBit (a ^^^ b) = crcBit a ^^^ crcBit b := by
  unfold crcBit
  rw [Nat.xor_div_two]
  have h := @Nat.xor_mod_two_eq_one a b
  by_cases ha : a % 2 = 1 <;> by_cases hb : b % 2 = 1
  · have hn : ¬ (a ^^^ b) % 2 = 1 := by rw [h]; simp [ha, hb]
    simp only [ha, hb, hn, if_true, if_false, Nat.xor_zero]
    rw [show a / 2 ^^^ 2197175160 ^^^ (b / 2 ^^^ 2197175160) = a / 2 ^^^ b / 2 ^^^ (2197175160 ^^^ 2197175160) by ac_rfl, Nat.xor_self, Nat.xor_zero]
  · have hn : (a ^^^ b) % 2 = 1 := by rw [h]; simp [ha, hb]
    simp only [ha, hb, hn, if_true, if_false, Nat.xor_zero]
    ac_rfl
  · have hn : (a ^^^ b) % 2 = 1 := by rw [h]; simp [ha, hb]
    simp only [ha, hb, hn, if_true, if_false, Nat.xor_zero]
    ac_rfl
  · have hn : ¬ (a ^^^ b) % 2 = 1 := by rw [h]; simp [ha, hb]
    simp only [ha, hb, hn, if_false, Nat.xor_zero]
theorem crcN_xor : ∀ (n a b : Nat), crcN n (a ^^^ b) = crcN n a ^^^ crcN n b
  | 0, _, _ => rfl
  | n + 1, a, b => by simp only [crcN]; rw [crcBit_xor, crcN_xor]
theorem crcN_add : ∀ (n m r : Nat), crcN (n + m) r = crcN m (crcN n r)
  | 0, m, r => by simp [crcN]
  | n + 1, m, r => by rw [Nat.add_right_comm]; simp only [crcN]; exact crcN_add n m _
theorem crcBit_two (m : Nat) : crcBit (2 * m) = m := by unfold crcBit; simp
theorem crcN_shift : ∀ (n m : Nat), crcN n (2 ^ n * m) = m
  | 0, m => by simp [crcN]
  | n + 1, m => by simp only [crcN]; rw [Nat.pow_succ', Nat.mul_assoc, crcBit_two, crcN_shift]
theorem crcN_zero : ∀ n, crcN n 0 = 0
  | 0 => rfl
  | n + 1 => by simp only [crcN]; exact crcN_zero n
theorem crcBit_lt {r : Nat} (h : r < 2 ^ 32) : crcBit r < 2 ^ 32 := by
  unfold crcBit
  exact Nat.xor_lt_two_pow (by omega) (by split <;> omega)
theorem crcN_lt : ∀ (n : Nat) {r : Nat}, r < 2 ^ 32 → crcN n r < 2 ^ 32
  | 0, _, h => h
  | n + 1, _, h => crcN_lt n (crcBit_lt h)
theorem crcBit_ne {r : Nat} (h : r < 2 ^ 32) (h0 : r ≠ 0) : crcBit r ≠ 0 := by
  unfold crcBit
  by_cases ho : r % 2 = 1
  · rw [if_pos ho]
    intro e
    have h1 : (r / 2 ^^^ 2197175160).testBit 31 = false := by rw [e]; exact Nat.zero_testBit 31
    rw [Nat.testBit_xor, Nat.testBit_lt_two_pow (show r / 2 < 2 ^ 31 by omega)] at h1
    revert h1
    decide
  · rw [if_neg ho, Nat.xor_zero]
    omega
theorem crcN_ne : ∀ (n : Nat) {r : Nat}, r < 2 ^ 32 → r ≠ 0 → crcN n r ≠ 0
  | 0, _, _, h0 => h0
  | n + 1, _, h, h0 => crcN_ne n (crcBit_lt h) (crcBit_ne h h0)

theorem xor_low (k q t : Nat) (h : t < 2 ^ k) : 2 ^ k * q ^^^ t = 2 ^ k * q + t := by
  apply Nat.eq_of_testBit_eq
  intro i
  rw [Nat.testBit_xor, Nat.testBit_two_pow_mul_add q h, Nat.testBit_two_pow_mul]
  by_cases hi : i < k
  · simp [hi, show ¬ k ≤ i by omega]
  · simp [hi, show k ≤ i by omega, Nat.testBit_lt_two_pow (Nat.lt_of_lt_of_le h (Nat.pow_le_pow_right (by omega) (show k ≤ i by omega)))]

/-- the program's table of four bits -/
def crcTab (i : Nat) : Nat := [0, 274646895, 549293790, 820201905, 1098587580, 1361435347, 1640403810, 1905808397, 2197175160, 2460548119, 2722870694, 2987750089, 3280807620, 3553878443, 3811616794, 4084100981].getD i 0
def crcStep (r : Nat) : Nat := r / 16 ^^^ crcTab (r % 16)
theorem crcTab_eq : ∀ t : Fin 16, crcN 4 t.val = crcTab t.val := by decide
theorem crcStep_eq (r : Nat) : crcStep r = crcN 4 r := by
  have h := xor_low 4 (r / 16) (r % 16) (Nat.mod_lt _ (by decide))
  have e : 2 ^ 4 * (r / 16) + r % 16 = r := Nat.div_add_mod r 16
  rw [e] at h
  conv => rhs; rw [← h]
  rw [crcN_xor, crcN_shift, crcTab_eq ⟨r % 16, Nat.mod_lt _ (by decide)⟩]
  rfl
def crcByte (r b : Nat) : Nat := crcN 8 (r ^^^ b)
theorem crcByte_eq (r b : Nat) : crcStep (crcStep (r ^^^ b)) = crcByte r b := by
  rw [crcStep_eq, crcStep_eq, ← crcN_add]
  rfl
theorem crcByte_lt {r b : Nat} (hr : r < 2 ^ 32) (hb : b < 2 ^ 32) : crcByte r b < 2 ^ 32 := crcN_lt 8 (Nat.xor_lt_two_pow hr hb)
def crcAll (l : List UInt8) (r : Nat) : Nat := l.foldl (fun r b => crcByte r b.toNat) r
theorem crcAll_lt : ∀ (l : List UInt8) {r : Nat}, r < 2 ^ 32 → crcAll l r < 2 ^ 32
  | [], _, h => h
  | b :: l, _, h => crcAll_lt l (crcByte_lt h (by have := b.toNat_lt; omega))
theorem crcAll_snoc (l : List UInt8) (b : UInt8) (r : Nat) : crcAll (l ++ [b]) r = crcByte (crcAll l r) b.toNat := by simp [crcAll]

/-- the bytes as one number -/
def num : List UInt8 → Nat
  | [] => 0
  | b :: l => b.toNat + 256 * num l
theorem crcAll_num : ∀ (l : List UInt8) (r : Nat), crcAll l r = crcN (8 * l.length) (r ^^^ num l)
  | [], r => by simp [crcAll, num, crcN]
  | b :: l, r => by
    have h := xor_low 8 (num l) b.toNat b.toNat_lt
    show crcAll l (crcByte r b.toNat) = _
    rw [crcAll_num l, num, Nat.add_comm, show 256 * num l = 2 ^ 8 * num l from rfl, ← h, show 8 * (b :: l).length = 8 + 8 * l.length by simp; omega, crcN_add,
      show r ^^^ (2 ^ 8 * num l ^^^ b.toNat) = (r ^^^ b.toNat) ^^^ 2 ^ 8 * num l by ac_rfl, crcN_xor 8, crcN_shift]
    rfl
def sumN (l : List UInt8) : Nat := 4294967295 ^^^ crcAll l 4294967295
theorem sumN_lt (l : List UInt8) : sumN l < 2 ^ 32 := Nat.xor_lt_two_pow (by decide) (crcAll_lt l (by decide))

/-- a change of at most 32 bits in a row changes the checksum -/
theorem sum_burst {a b : List UInt8} (hl : a.length = b.length) {from_ W : Nat} (hf : from_ ≤ 8 * b.length) (hW : W < 2 ^ 32) (h : num a = num b ^^^ 2 ^ from_ * W) : sumN a = sumN b ↔ W = 0 := by
  have e : crcAll a 4294967295 = crcAll b 4294967295 ^^^ crcN (8 * b.length - from_) W := by
    rw [crcAll_num, crcAll_num, hl, h, show 4294967295 ^^^ (num b ^^^ 2 ^ from_ * W) = (4294967295 ^^^ num b) ^^^ 2 ^ from_ * W by ac_rfl, crcN_xor]
    congr 1
    conv => lhs; rw [show 8 * b.length = from_ + (8 * b.length - from_) by omega, crcN_add, crcN_shift]
  unfold sumN
  rw [e]
  constructor
  · intro h1
    have h2 : crcN (8 * b.length - from_) W = 0 := by
      have h3 := congrArg (fun x => (4294967295 ^^^ crcAll b 4294967295) ^^^ x) h1
      simp only [Nat.xor_self] at h3
      rw [show (4294967295 ^^^ crcAll b 4294967295) ^^^ (4294967295 ^^^ (crcAll b 4294967295 ^^^ crcN (8 * b.length - from_) W)) = (4294967295 ^^^ crcAll b 4294967295) ^^^ (4294967295 ^^^ crcAll b 4294967295) ^^^ crcN (8 * b.length - from_) W by ac_rfl, Nat.xor_self, Nat.zero_xor] at h3
      exact h3
    exact Classical.byContradiction fun hn => crcN_ne _ hW hn h2
  · rintro rfl
    rw [crcN_zero, Nat.xor_zero]

/-- the checksum of three strings' XOR -/
theorem crc_three : ∀ (a b c : List UInt8) (x y z : Nat), a.length = b.length → a.length = c.length →
    crcAll (List.zipWith (fun p q => p ^^^ q) (List.zipWith (fun p q => p ^^^ q) a b) c) (x ^^^ y ^^^ z) = crcAll a x ^^^ crcAll b y ^^^ crcAll c z
  | [], [], [], _, _, _, _, _ => rfl
  | p :: a, q :: b, s :: c, x, y, z, h1, h2 => by
    simp only [List.zipWith_cons_cons]
    show crcAll _ (crcByte _ _) = crcAll a (crcByte _ _) ^^^ crcAll b (crcByte _ _) ^^^ crcAll c (crcByte _ _)
    rw [show crcByte (x ^^^ y ^^^ z) (p ^^^ q ^^^ s).toNat = crcByte x p.toNat ^^^ crcByte y q.toNat ^^^ crcByte z s.toNat by
      unfold crcByte
      rw [← crcN_xor, ← crcN_xor, UInt8.toNat_xor, UInt8.toNat_xor]
      congr 1
      ac_rfl]
    exact crc_three a b c _ _ _ (by simpa using h1) (by simpa using h2)
  | [], _ :: _, _, _, _, _, h, _ => by simp at h
  | _ :: _, [], _, _, _, _, h, _ => by simp at h
  | [], [], _ :: _, _, _, _, _, h => by simp at h
  | _ :: _, _ :: _, [], _, _, _, _, h => by simp at h
theorem sum_three (a b c : List UInt8) (h1 : a.length = b.length) (h2 : a.length = c.length) :
    sumN (List.zipWith (fun p q => p ^^^ q) (List.zipWith (fun p q => p ^^^ q) a b) c) = sumN a ^^^ sumN b ^^^ sumN c := by
  have h := crc_three a b c 4294967295 4294967295 4294967295 h1 h2
  unfold sumN
  rw [show (4294967295 : Nat) ^^^ 4294967295 ^^^ 4294967295 = 4294967295 by decide] at h
  rw [h, show 4294967295 ^^^ crcAll a 4294967295 ^^^ (4294967295 ^^^ crcAll b 4294967295) ^^^ (4294967295 ^^^ crcAll c 4294967295) = (4294967295 ^^^ 4294967295) ^^^ 4294967295 ^^^ (crcAll a 4294967295 ^^^ crcAll b 4294967295 ^^^ crcAll c 4294967295) by ac_rfl,
    show (4294967295 : Nat) ^^^ 4294967295 ^^^ 4294967295 = 4294967295 by decide]
end Go.Proofs.YtncmbgdpmfoohaaDoor
