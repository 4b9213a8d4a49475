/- Integers as decimal texts: mathematics. -/
import Derived.Test.YtjhnfejlkljkjaaDoorIntMath
import Derived.Lib.ItoaNum
namespace Go.Proofs.YtjhnfejlkljkjaaDoor
open Go.RowKit

namespace In
def isDig (c : UInt8) : Bool := decide (48 ≤ c.toNat) && decide (c.toNat ≤ 57)
def dval (c : UInt8) : Nat := c.toNat - 48
def val10 (l : List UInt8) : Nat := l.foldl (fun a c => 10 * a + dval c) 0
theorem foldl_val (l : List UInt8) (a : Nat) : l.foldl (fun a c => 10 * a + dval c) a = 10 ^ l.length * a + val10 l := by
  induction l generalizing a with
  | nil => simp [val10]
  | cons c l ih =>
    have e : val10 (c :: l) = 10 ^ l.length * dval c + val10 l := by
      show l.foldl _ (10 * 0 + dval c) = _
      rw [ih, Nat.mul_zero, Nat.zero_add]
    rw [List.foldl_cons, ih, e, List.length_cons, Nat.pow_succ, Nat.mul_add, ← Nat.mul_assoc, Nat.add_assoc]
theorem val10_one (c : UInt8) : val10 [c] = dval c := by show 10 * 0 + dval c = _; omega
theorem val10_append (l r : List UInt8) : val10 (l ++ r) = 10 ^ r.length * val10 l + val10 r := by
  rw [val10, List.foldl_append, foldl_val]
  rfl
theorem val10_cons (c : UInt8) (l : List UInt8) : val10 (c :: l) = 10 ^ l.length * dval c + val10 l := by
  have := val10_append [c] l
  rw [val10_one] at this
  exact this
theorem val10_snoc (l : List UInt8) (c : UInt8) : val10 (l ++ [c]) = 10 * val10 l + dval c := by
  rw [val10_append, val10_one, List.length_singleton, Nat.pow_one]
theorem val10_lt (l : List UInt8) (h : ∀ c ∈ l, isDig c = true) : val10 l < 10 ^ l.length := by
  induction l with
  | nil => simp [val10]
  | cons c l ih =>
    have h1 := ih (fun x hx => h x (by simp [hx]))
    have h2 := h c (by simp)
    simp only [isDig, Bool.and_eq_true, decide_eq_true_eq] at h2
    have h3 : dval c ≤ 9 := by unfold dval; omega
    have h4 : 10 ^ l.length * dval c ≤ 10 ^ l.length * 9 := Nat.mul_le_mul_left _ h3
    rw [val10_cons, List.length_cons, Nat.pow_succ]
    omega
theorem ofNat_dig {d : Nat} (h : d < 10) : isDig (UInt8.ofNat (48 + d)) = true ∧ dval (UInt8.ofNat (48 + d)) = d ∧ (UInt8.ofNat (48 + d)).toNat = 48 + d := by
  have e : (UInt8.ofNat (48 + d)).toNat = 48 + d := by simp; omega
  refine ⟨?_, ?_, e⟩
  · unfold isDig
    rw [e]
    simp
    omega
  · unfold dval
    rw [e]
    omega
theorem dig_ofNat {c : UInt8} (h : isDig c = true) : UInt8.ofNat (48 + dval c) = c := by
  simp only [isDig, Bool.and_eq_true, decide_eq_true_eq] at h
  unfold dval
  rw [show 48 + (c.toNat - 48) = c.toNat by omega]
  simp
theorem dval_lt {c : UInt8} (h : isDig c = true) : dval c < 10 := by
  simp only [isDig, Bool.and_eq_true, decide_eq_true_eq] at h
  unfold dval
  omega
theorem dec_dig : ∀ u : Nat, ∀ c ∈ Lib.decDigits u, isDig c = true := by
  intro u
  induction u using Nat.strongRecOn with
  | ind u ih =>
    rw [Lib.decDigits]
    split
    · rename_i h
      intro c hc
      rw [List.mem_singleton.1 hc]
      exact (ofNat_dig h).1
    · intro c hc
      rcases List.mem_append.1 hc with hc | hc
      · exact ih _ (by omega) c hc
      · rw [List.mem_singleton.1 hc]
        exact (ofNat_dig (Nat.mod_lt _ (by decide))).1
theorem dec_val : ∀ u : Nat, val10 (Lib.decDigits u) = u := by
  intro u
  induction u using Nat.strongRecOn with
  | ind u ih =>
    rw [Lib.decDigits]
    split
    · rename_i h
      show 10 * 0 + dval _ = u
      rw [(ofNat_dig h).2.1]
      omega
    · rw [val10_snoc, ih _ (by omega), (ofNat_dig (Nat.mod_lt _ (by decide))).2.1]
      omega
theorem dec_ne (u : Nat) : Lib.decDigits u ≠ [] := by
  rw [Lib.decDigits]
  split <;> simp
/-- a numeral does not begin with 0, unless it is 0 -/
theorem dec_head : ∀ u : Nat, u ≠ 0 → ∃ c r, Lib.decDigits u = c :: r ∧ c ≠ 48 := by
  intro u
  induction u using Nat.strongRecOn with
  | ind u ih =>
    intro h0
    rw [Lib.decDigits]
    split
    · rename_i h
      refine ⟨_, [], rfl, fun h1 => ?_⟩
      have := (ofNat_dig h).2.2
      rw [h1] at this
      have e : (48 : UInt8).toNat = 48 := rfl
      omega
    · obtain ⟨c, r, hc, hn⟩ := ih (u / 10) (by omega) (by omega)
      exact ⟨c, r ++ [_], by rw [hc]; rfl, hn⟩
/-- digits that do not begin with 0 are a numeral -/
theorem val_dec : ∀ (n : Nat) (l : List UInt8) (c : UInt8), l.length = n → (∀ x ∈ c :: l, isDig x = true) → (c ≠ 48 ∨ l = []) → c :: l = Lib.decDigits (val10 (c :: l)) := by
  intro n
  induction n with
  | zero =>
    intro l c hn h _
    obtain rfl : l = [] := List.eq_nil_of_length_eq_zero hn
    have h1 := h c (by simp)
    have h2 := dval_lt h1
    rw [val10_one, Lib.decDigits, dif_pos h2, dig_ofNat h1]
  | succ n ih =>
    intro l' c hn h hc
    rcases List.eq_nil_or_concat l' with rfl | ⟨l, x, rfl⟩
    · cases hn
    rw [List.concat_eq_append] at *
    have hc0 : c ≠ 48 := by
      rcases hc with h | h
      · exact h
      · simp at h
    have h1 := ih l c (by simpa using hn) (fun y hy => h y (by rw [← List.cons_append]; exact List.mem_append_left _ hy)) (.inl hc0)
    have h2 := h x (by simp)
    have h3 := dval_lt h2
    have hv : 0 < val10 (c :: l) := by
      have hcd := h c (by simp)
      have hd : 0 < dval c := by
        unfold dval
        simp only [isDig, Bool.and_eq_true, decide_eq_true_eq] at hcd
        have : c.toNat ≠ 48 := fun h => hc0 (UInt8.toNat_inj.1 (by rw [h]; rfl))
        omega
      have : 0 < 10 ^ l.length * dval c := Nat.mul_pos (Nat.pow_pos (by decide)) hd
      rw [val10_cons]
      omega
    rw [← List.cons_append, val10_snoc, Lib.decDigits, dif_neg (by omega)]
    rw [show (10 * val10 (c :: l) + dval x) / 10 = val10 (c :: l) by omega, show (10 * val10 (c :: l) + dval x) % 10 = dval x by omega, ← h1, dig_ofNat h2]
theorem dec_inj {u v : Nat} (h : Lib.decDigits u = Lib.decDigits v) : u = v := by rw [← dec_val u, h, dec_val]
theorem dec_len_le {u k : Nat} (hk : 1 ≤ k) : (Lib.decDigits u).length ≤ k ↔ u < 10 ^ k := by
  rw [Lib.decDigits_length]
  constructor
  · intro h
    exact Nat.lt_of_lt_of_le (Lib.lt_pow_nDigits u) (Nat.pow_le_pow_right (by decide) h)
  · intro h
    rcases Nat.lt_or_ge (Lib.nDigits u) (k + 1) with h1 | h1
    · omega
    · exfalso
      by_cases h0 : u < 10
      · rw [Lib.nDigits_small h0] at h1; omega
      · have : 10 ^ (Lib.nDigits u - 1) ≤ u := by
          have hu : u ≠ 0 := by omega
          obtain ⟨c, r, hc, hn⟩ := dec_head u hu
          have hl := Lib.decDigits_length u
          have hd := dec_dig u c (by rw [hc]; simp)
          have hval := dec_val u
          rw [hc] at hl hval
          have e := val10_cons c r
          have hd1 : 1 ≤ dval c := by
            unfold dval
            simp only [isDig, Bool.and_eq_true, decide_eq_true_eq] at hd
            have : c.toNat ≠ 48 := fun h => hn (UInt8.toNat_inj.1 (by rw [h]; rfl))
            omega
          have hr : r.length = Lib.nDigits u - 1 := by simp at hl; omega
          rw [hr] at e
          rw [hval] at e
          calc 10 ^ (Lib.nDigits u - 1) = 10 ^ (Lib.nDigits u - 1) * 1 := by omega
            _ ≤ 10 ^ (Lib.nDigits u - 1) * dval c := Nat.mul_le_mul_left _ hd1
            _ ≤ u := by omega
        have h2 : 10 ^ k ≤ 10 ^ (Lib.nDigits u - 1) := Nat.pow_le_pow_right (by decide) (by omega)
        omega
/-- a group of four digits -/
def pad4 (g : Nat) : List UInt8 := List.replicate (4 - (Lib.decDigits g).length) 48 ++ Lib.decDigits g
theorem zeros_val (k : Nat) : val10 (List.replicate k 48) = 0 := by
  induction k with
  | zero => rfl
  | succ k ih => rw [List.replicate_succ', val10_snoc, ih]; rfl
theorem pad4_len {g : Nat} (h : g < 10000) : (pad4 g).length = 4 := by
  have := (dec_len_le (u := g) (k := 4) (by decide)).2 h
  simp [pad4]
  omega
theorem pad4_val (g : Nat) : val10 (pad4 g) = g := by rw [pad4, val10_append, zeros_val, dec_val]; omega
theorem pad4_dig (g : Nat) : ∀ c ∈ pad4 g, isDig c = true := by
  intro c hc
  rcases List.mem_append.1 hc with hc | hc
  · rw [(List.mem_replicate.1 hc).2]; rfl
  · exact dec_dig g c hc
theorem dec_more {m g : Nat} (hm : m ≠ 0) (hg : g < 10000) : Lib.decDigits (m * 10000 + g) = Lib.decDigits m ++ pad4 g := by
  obtain ⟨c, r, hc, hn⟩ := dec_head m hm
  have hv : val10 (Lib.decDigits m ++ pad4 g) = m * 10000 + g := by
    rw [val10_append, dec_val, pad4_val, pad4_len hg]
    omega
  have hd : ∀ x ∈ Lib.decDigits m ++ pad4 g, isDig x = true := by
    intro x hx
    rcases List.mem_append.1 hx with hx | hx
    · exact dec_dig m x hx
    · exact pad4_dig g x hx
  rw [hc, List.cons_append] at hv hd ⊢
  have := val_dec _ (r ++ pad4 g) c rfl hd (.inl hn)
  rw [hv] at this
  exact this.symm

/-! ### integers -/
def txtL (z : Int) : List UInt8 := Lib.itoa z
def txt (z : Int) : ByteArray := ⟨(Lib.itoa z).toArray⟩
/-- what Valid says of the bytes of a string -/
def validL (l : List UInt8) : Bool :=
  let d := if l.head? = some 45 then l.tail else l
  decide (d ≠ []) && decide (d.length ≤ 200) && d.all isDig && (decide (d.head? ≠ some 48) || decide (l = [48]))
theorem head_dec (u : Nat) : (Lib.decDigits u).head? ≠ some 45 := by
  intro h
  cases e : Lib.decDigits u with
  | nil => rw [e] at h; cases h
  | cons c r =>
    rw [e] at h
    cases h
    have := dec_dig u 45 (by rw [e]; simp)
    exact absurd this (by decide)
theorem dec_zero : Lib.decDigits 0 = [48] := by rw [Lib.decDigits]; rfl
theorem valid_txt (z : Int) : validL (txtL z) = decide (z.natAbs < 10 ^ 200) := by
  have hl := dec_len_le (u := z.natAbs) (k := 200) (by decide)
  have hall : (Lib.decDigits z.natAbs).all isDig = true := List.all_eq_true.2 (dec_dig _)
  have hne := dec_ne z.natAbs
  unfold txtL Lib.itoa
  by_cases h : z < 0
  · rw [if_pos h]
    obtain ⟨c, r, hc, hn⟩ := dec_head z.natAbs (by omega)
    unfold validL
    dsimp only
    rw [List.head?_cons, if_pos rfl, List.tail_cons, decide_eq_true hne, hall, hc, List.head?_cons]
    have : (some c ≠ some (48 : UInt8)) := fun h => hn (Option.some.inj h)
    rw [decide_eq_true this, ← hc]
    by_cases hk : z.natAbs < 10 ^ 200
    · rw [decide_eq_true hk, decide_eq_true (hl.2 hk)]; rfl
    · rw [decide_eq_false hk, decide_eq_false (fun h => hk (hl.1 h))]; rfl
  · rw [if_neg h]
    have e : z.toNat = z.natAbs := by omega
    rw [e]
    unfold validL
    dsimp only
    rw [if_neg (head_dec _), decide_eq_true hne, hall]
    have hlast : (decide ((Lib.decDigits z.natAbs).head? ≠ some 48) || decide (Lib.decDigits z.natAbs = [48])) = true := by
      by_cases h0 : z.natAbs = 0
      · rw [h0, dec_zero]; rfl
      · obtain ⟨c, r, hc, hn⟩ := dec_head z.natAbs h0
        rw [hc, List.head?_cons, decide_eq_true (show some c ≠ some (48 : UInt8) from fun h => hn (Option.some.inj h))]; rfl
    rw [hlast]
    by_cases hk : z.natAbs < 10 ^ 200
    · rw [decide_eq_true hk, decide_eq_true (hl.2 hk)]; rfl
    · rw [decide_eq_false hk, decide_eq_false (fun h => hk (hl.1 h))]; rfl
theorem valid_is {l : List UInt8} (h : validL l = true) : ∃ z : Int, l = txtL z ∧ z.natAbs < 10 ^ 200 := by
  unfold validL at h
  dsimp only at h
  simp only [Bool.and_eq_true, Bool.or_eq_true, decide_eq_true_eq, List.all_eq_true] at h
  obtain ⟨⟨⟨h1, h2⟩, h3⟩, h4⟩ := h
  by_cases hm : l.head? = some 45
  · rw [if_pos hm] at h1 h2 h3 h4
    obtain ⟨r, rfl⟩ : ∃ r, l = 45 :: r := by
      cases l with
      | nil => cases hm
      | cons c r => cases hm; exact ⟨r, rfl⟩
    rw [List.tail_cons] at *
    cases r with
    | nil => exact absurd rfl h1
    | cons c r =>
      have hc : c ≠ 48 := by
        rcases h4 with h | h
        · exact fun e => h (by rw [e]; rfl)
        · cases h
      have hv := val_dec _ r c rfl h3 (.inl hc)
      have hlen := (dec_len_le (u := val10 (c :: r)) (k := 200) (by decide)).1 (by rw [← hv]; exact h2)
      have hpos : val10 (c :: r) ≠ 0 := by
        intro h0
        rw [h0, dec_zero] at hv
        exact hc (by injection hv)
      refine ⟨-(val10 (c :: r) : Int), ?_, by rw [Int.natAbs_neg, Int.natAbs_natCast]; exact hlen⟩
      unfold txtL Lib.itoa
      rw [if_pos (by omega), Int.natAbs_neg, Int.natAbs_natCast, ← hv]
  · rw [if_neg hm] at h1 h2 h3 h4
    cases l with
    | nil => exact absurd rfl h1
    | cons c r =>
      have hc : c ≠ 48 ∨ r = [] := by
        rcases h4 with h | h
        · exact .inl fun e => h (by rw [e]; rfl)
        · exact .inr (by injection h)
      have hv := val_dec _ r c rfl h3 hc
      have hlen := (dec_len_le (u := val10 (c :: r)) (k := 200) (by decide)).1 (by rw [← hv]; exact h2)
      refine ⟨(val10 (c :: r) : Int), ?_, by rw [Int.natAbs_natCast]; exact hlen⟩
      unfold txtL Lib.itoa
      rw [if_neg (by omega), Int.toNat_natCast, ← hv]
theorem txtL_inj {a b : Int} (h : txtL a = txtL b) : a = b := by
  unfold txtL Lib.itoa at h
  by_cases ha : a < 0
  · by_cases hb : b < 0
    · rw [if_pos ha, if_pos hb] at h
      have := dec_inj (List.cons.inj h).2
      omega
    · rw [if_pos ha, if_neg hb] at h
      exact absurd (by rw [← h]; rfl) (head_dec b.toNat)
  · by_cases hb : b < 0
    · rw [if_neg ha, if_pos hb] at h
      exact absurd (by rw [h]; rfl) (head_dec a.toNat)
    · rw [if_neg ha, if_neg hb] at h
      have := dec_inj h
      omega
end In
end Go.Proofs.YtjhnfejlkljkjaaDoor
