/- Decoding at any offset; strings. -/
import Derived.Test.YtncmbgdpmfoohaaDoorWireB
namespace Go.Proofs.YtncmbgdpmfoohaaDoor
open Go.RowKit

set_option maxHeartbeats 400000 in
theorem int_any (s : ByteArray) (a : Int) (w : World) (hs : s.size ≤ maxLen) (h1 : -9223372036854775808 ≤ a) (h2 : a ≤ 9223372036854775807) :
    Calls Tryd.prog 15 #[.string s, .int .i64 a] w fun e w' => e = .returned (intV (intR s.data.toList a)) ∧ w = w' := by
  by_cases h : 0 ≤ a ∧ a ≤ s.size
  · obtain ⟨k, rfl⟩ := Int.eq_ofNat_of_zero_le h.1
    exact int_in s k w hs (by omega)
  · have e : intR s.data.toList a = (0, 0, 2) := by
      unfold intR
      rw [if_pos (by simp; omega)]
    rw [e]
    unfold maxLen at hs
    by_cases h0 : a < 0
    · go_enter Tryd.func15, Tryd.ntmps15
      go_wp2
      go_ret3
      exact ⟨rfl, rfl⟩
    · obtain ⟨k, rfl⟩ := Int.eq_ofNat_of_zero_le (show 0 ≤ a by omega)
      have hk : s.size < k := by omega
      clear h
      go_enter Tryd.func15, Tryd.ntmps15
      go_wp2
      go_ret3
      exact ⟨rfl, rfl⟩

theorem intR_ok {l : List UInt8} {a n x : Int} (h : intR l a = (n, x, 0)) : 0 ≤ a ∧ a < x ∧ x ≤ l.length ∧ -maxI ≤ n ∧ n ≤ maxI := by
  unfold intR at h
  split at h
  · simp at h
  · rename_i h0
    split at h
    · rename_i n' k hd
      simp only [Prod.mk.injEq, and_true] at h
      obtain ⟨rfl, rfl⟩ := h
      obtain ⟨z, e1, e2, e3, e4, e5, e6, e7, e8⟩ := enc_dec _ _ _ _ _ hd
      simp only [List.length_drop] at e7
      refine ⟨by omega, by omega, by omega, e2, ?_⟩
      have e9 : (128 : Nat) ^ (9 - 0) = 9223372036854775808 := by decide
      simp only [Nat.pow_zero, Nat.mul_one, Nat.zero_add] at e1
      rw [e1]
      unfold unZ maxI
      split <;> omega
    · simp at h
theorem intR_err (l : List UInt8) (a : Int) : (intR l a).2.2 = 0 ∨ intR l a = (0, 0, 2) ∨ intR l a = (0, 0, 10) := by
  unfold intR
  split
  · exact .inr (.inl rfl)
  · split
    · exact .inl rfl
    · exact .inr (.inr rfl)

/-- what String returns -/
def strR (s : ByteArray) (a : Int) : ByteArray × Int × Int :=
  if (intR s.data.toList a).2.2 ≠ 0 then (⟨#[]⟩, 0, (intR s.data.toList a).2.2) else
  if (intR s.data.toList a).1 < 0 ∨ 65536 < (intR s.data.toList a).1 ∨ (s.size : Int) - (intR s.data.toList a).2.1 < (intR s.data.toList a).1 then (⟨#[]⟩, 0, 10) else
  (s.extract (intR s.data.toList a).2.1.toNat ((intR s.data.toList a).2.1.toNat + (intR s.data.toList a).1.toNat), (intR s.data.toList a).2.1 + (intR s.data.toList a).1, 0)
def strV (r : ByteArray × Int × Int) : Value := .tuple #[.string r.1, .int .i64 r.2.1, .int .i64 r.2.2]

set_option maxHeartbeats 1000000 in
theorem string_any (s : ByteArray) (a : Int) (w : World) (hs : s.size ≤ maxLen) (h1 : -9223372036854775808 ≤ a) (h2 : a ≤ 9223372036854775807) :
    Calls Tryd.prog 17 #[.string s, .int .i64 a] w fun e w' => e = .returned (strV (strR s a)) ∧ w = w' := by
  have C := int_any s a w hs h1 h2
  have HR := Lib.hid (show strR s a = _ from rfl)
  conv at HR => arg 1; rhs; unfold strR
  rcases intR_err s.data.toList a with h | h | h
  · rcases hr : intR s.data.toList a with ⟨n, x, e⟩
    rw [hr] at C h
    obtain rfl : e = 0 := h
    obtain ⟨g1, g2, g3, g4, g5⟩ := intR_ok hr
    obtain ⟨x, rfl⟩ := Int.eq_ofNat_of_zero_le (show 0 ≤ x by omega)
    have g6 : x ≤ s.size := by simpa using g3
    unfold maxI at g4 g5
    have C' := Lib.hid C
    rw [hr] at HR
    unfold maxLen at hs
    clear C hr g1 g2 g3 h1 h2
    by_cases c1 : n < 0
    · have RR := HR.out
      rw [if_neg (by simp), if_pos (Or.inl c1)] at RR
      have R := Lib.hid RR
      clear HR RR
      go_enter Tryd.func17, Tryd.ntmps17
      go_wp2_with (go_at_call 15; refine C'.out.mono ?_; simp only [intV]; rintro e w' ⟨rfl, rfl⟩)
      go_ret3
      exact ⟨retv (by rw [R.out]; rfl), rfl⟩
    · obtain ⟨n, rfl⟩ := Int.eq_ofNat_of_zero_le (show 0 ≤ n by omega)
      by_cases c2 : 65536 < n
      · have RR := HR.out
        rw [if_neg (by simp), if_pos (Or.inr (Or.inl (by simp; omega)))] at RR
        have R := Lib.hid RR
        clear HR RR c1
        go_enter Tryd.func17, Tryd.ntmps17
        go_wp2_with (go_at_call 15; refine C'.out.mono ?_; simp only [intV]; rintro e w' ⟨rfl, rfl⟩)
        go_ret3
        exact ⟨retv (by rw [R.out]; rfl), rfl⟩
      · by_cases c3 : s.size < x + n
        · have RR := HR.out
          rw [if_neg (by simp), if_pos (Or.inr (Or.inr (by simp; omega)))] at RR
          have R := Lib.hid RR
          have c4 : (s.size : Int) - (x : Int) < (n : Int) := by omega
          clear HR RR c1
          go_enter Tryd.func17, Tryd.ntmps17
          go_wp2_with (go_at_call 15; refine C'.out.mono ?_; simp only [intV]; rintro e w' ⟨rfl, rfl⟩)
          go_ret3
          exact ⟨retv (by rw [R.out]; rfl), rfl⟩
        · have RR := HR.out
          rw [if_neg (by simp), if_neg (by simp; omega)] at RR
          have R := Lib.hid RR
          have c4 : ¬ (s.size : Int) - (x : Int) < (n : Int) := by omega
          clear HR RR c1
          go_enter Tryd.func17, Tryd.ntmps17
          go_wp2_with (go_at_call 15; refine C'.out.mono ?_; simp only [intV]; rintro e w' ⟨rfl, rfl⟩)
          go_ret3
          exact ⟨retv (by rw [R.out]; rfl), rfl⟩
  all_goals
    rw [h] at C
    have RR := HR.out
    rw [h, if_pos (by simp)] at RR
    have C' := Lib.hid C
    have R := Lib.hid RR
    clear C h HR RR
    go_enter Tryd.func17, Tryd.ntmps17
    go_wp2_with (go_at_call 15; refine C'.out.mono ?_; simp only [intV]; rintro e w' ⟨rfl, rfl⟩)
    go_ret3
    exact ⟨retv (by rw [R.out]; rfl), rfl⟩
end Go.Proofs.YtncmbgdpmfoohaaDoor
