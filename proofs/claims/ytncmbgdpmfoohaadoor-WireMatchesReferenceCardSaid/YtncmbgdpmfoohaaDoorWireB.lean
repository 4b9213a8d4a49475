/- Decoding: what Int and String return. -/
import Derived.Test.YtncmbgdpmfoohaaDoorWireA
import Derived.Test.YtncmbgdpmfoohaaDoorWireMath2
namespace Go.Proofs.YtncmbgdpmfoohaaDoor
open Go.RowKit

/-- what Int returns -/
def intR (l : List UInt8) (at_ : Int) : Int × Int × Int :=
  if at_ < 0 ∨ (l.length : Int) < at_ then (0, 0, 2) else match dec (l.drop at_.toNat) 0 0 with
    | some (n, k) => (n, at_ + k, 0)
    | none => (0, 0, 10)
def intV (r : Int × Int × Int) : Value := .tuple #[.int .i64 r.1, .int .i64 r.2.1, .int .i64 r.2.2]

theorem pow7 (k : Nat) : (2 : Nat) ^ (7 * k) = 128 ^ k := by rw [Nat.pow_mul]
theorem or64 {Z c k : Nat} (hk : k ≤ 8) (hZ : Z < 128 ^ k) : bits BinOp.or IntKind.u64 (Z : Int) (IntKind.u64.wrap ((c : Int) % 128 * 2 ^ (7 * k))) = ((Z + c % 128 * 128 ^ k : Nat) : Int) ∧ Z + c % 128 * 128 ^ k < 128 ^ (k + 1) ∧ Z + c % 128 * 128 ^ k < 9223372036854775808 := by
  have hc : c % 128 < 128 := Nat.mod_lt _ (by decide)
  have e0 : (c : Int) % 128 * 2 ^ (7 * k) = ((c % 128 * 128 ^ k : Nat) : Int) := by
    rw [← pow7]; push_cast; rfl
  rw [e0]
  generalize c % 128 = d at *
  have h1 : d * 128 ^ k ≤ 127 * 128 ^ k := Nat.mul_le_mul_right _ (by omega)
  have h2 : (128 : Nat) ^ (k + 1) = 128 ^ k * 128 := Nat.pow_succ 128 k
  have h3 : (128 : Nat) ^ (k + 1) ≤ 128 ^ 9 := Nat.pow_le_pow_right (by decide) (by omega)
  have h4 : (128 : Nat) ^ 9 = 9223372036854775808 := by decide
  have h5 : Z ||| d * 128 ^ k = Z + d * 128 ^ k := by
    have := Nat.two_pow_add_eq_or_of_lt (i := 7 * k) (b := Z) (by rw [pow7]; exact hZ) d
    rw [pow7] at this
    rw [Nat.or_comm, Nat.mul_comm d, ← this, Nat.add_comm]
  generalize hD : d * 128 ^ k = D at *
  generalize (128 : Nat) ^ k = Q at *
  refine ⟨?_, by omega, by omega⟩
  have e1 : IntKind.u64.wrap (D : Int) = (D : Int) := by
    simp [IntKind.wrap, IntKind.bits, IntKind.signed]; omega
  have e : (BitVec.ofInt 64 (Z : Int) ||| BitVec.ofInt 64 (D : Int)).toNat = Z + D := by
    rw [BitVec.toNat_or, BitVec.ofInt_natCast, BitVec.ofInt_natCast, BitVec.toNat_ofNat, BitVec.toNat_ofNat, Nat.mod_eq_of_lt (by omega), Nat.mod_eq_of_lt (by omega), h5]
  rw [e1]
  show IntKind.u64.wrap (((BitVec.ofInt 64 (Z : Int) ||| BitVec.ofInt 64 (D : Int)).toNat : Nat) : Int) = _
  rw [e]
  simp [IntKind.wrap, IntKind.bits, IntKind.signed]
  omega

set_option maxRecDepth 100000 in
set_option maxHeartbeats 1000000 in
theorem int_in (s : ByteArray) (a : Nat) (w : World) (hs : s.size ≤ maxLen) (ha : a ≤ s.size) :
    Calls Tryd.prog 15 #[.string s, .int .i64 a] w fun e w' => e = .returned (intV (intR s.data.toList a)) ∧ w = w' := by
  have hR : intR s.data.toList a = match dec (s.data.toList.drop a) 0 0 with
    | some (n, k) => (n, (a : Int) + k, 0)
    | none => (0, 0, 10) := by
    unfold intR
    rw [if_neg (by simp; omega)]
    rfl
  have HR := Lib.hid hR
  clear hR
  unfold maxLen at hs
  have hd1 : decide ((a : Int) < 0) = false := by simp
  have hd2 : decide (s.size < a) = false := by simp; omega
  go_enter Tryd.func15, Tryd.ntmps15
  go_wp2
  go_loop [7, 8] (fun z i => ∃ k Z : Nat, k ≤ 9 ∧ a + k ≤ s.size ∧ i = .int .i64 k ∧ Z < 128 ^ k ∧ dec (s.data.toList.drop a) 0 0 = dec (s.data.toList.drop (a + k)) k Z ∧ z = .int .u64 Z) (fun _ i => 9 - (intOf i).toNat)
  case atStart => exact ⟨0, 0, by omega, by omega, rfl, by decide, rfl, rfl⟩
  case round =>
    obtain ⟨k, Z, hk, hak, rfl, hZ, hD, rfl⟩ := hrel
    have HD := Lib.hid hD
    clear hD
    by_cases h9 : k < 9
    · by_cases hlt : a + k < s.size
      · obtain ⟨o1, o2, o3⟩ := or64 (c := s[a + k].toNat) (show k ≤ 8 by omega) hZ
        have hdr : s.data.toList.drop (a + k) = s[a + k] :: s.data.toList.drop (a + (k + 1)) := by
          rw [List.drop_eq_getElem_cons (by simpa using hlt)]; rfl
        have E := HD.out
        rw [hdr, dec, if_neg (by omega)] at E
        clear HD
        have H2 := Lib.hid o2
        have HZ := Lib.hid hZ
        clear hZ o2 hdr
        generalize Z + s[a + k].toNat % 128 * 128 ^ k = Z' at *
        by_cases hc : 128 ≤ s[a + k].toNat
        · rw [if_pos hc] at E
          have HE := Lib.hid E
          clear E
          go_wp2
          go_round
          case rel => exact ⟨k + 1, Z', by omega, by omega, by go_num, H2.out, HE.out, rfl⟩
          case measure => simp [intOf]; omega
        · rw [if_neg hc] at E
          have hb1 := s[a + k].toNat_lt
          by_cases hbad : (s[a + k].toNat = 0 ∧ 0 < k) ∨ unZ Z' < -maxI
          · rw [if_pos hbad] at E
            have R := HR.out
            rw [E] at R
            have RR := Lib.hid R
            have HB := Lib.hid hbad
            clear E R HR hbad
            go_wp2_with (go_at_call 26; refine (unfold_any _ _ (by omega)).mono ?_; rintro e w' ⟨rfl, rfl⟩)
            all_goals first
              | (go_ret3; exact ⟨retv (by rw [RR.out]; rfl), rfl⟩)
              | (exfalso; have := HB.out; unfold maxI at this; omega)
          · rw [if_neg hbad] at E
            have R := HR.out
            rw [E] at R
            have RR := Lib.hid R
            have HB := Lib.hid hbad
            clear E R HR hbad
            go_wp2_with (go_at_call 26; refine (unfold_any _ _ (by omega)).mono ?_; rintro e w' ⟨rfl, rfl⟩)
            all_goals first
              | (go_ret3; exact ⟨retv (by rw [RR.out]; simp [intV]; omega), rfl⟩)
              | (exfalso; have := HB.out; unfold maxI at this; omega)
      · have e0 : a + k = s.size := by omega
        have R := HR.out
        rw [HD.out, List.drop_of_length_le (by simp; omega), dec] at R
        have RR := Lib.hid R
        clear R HD HR hZ
        go_wp2
        go_ret3
        exact ⟨retv (by rw [RR.out]; rfl), rfl⟩
    · have R := HR.out
      obtain rfl : k = 9 := by omega
      have e1 : dec (s.data.toList.drop (a + 9)) 9 Z = none := by
        cases s.data.toList.drop (a + 9) with
        | nil => rfl
        | cons b l => simp [dec]
      rw [HD.out, e1] at R
      have RR := Lib.hid R
      clear R HD HR hZ e1
      go_wp2
      go_ret3
      exact ⟨retv (by rw [RR.out]; rfl), rfl⟩
end Go.Proofs.YtncmbgdpmfoohaaDoor
