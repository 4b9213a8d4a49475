/- The reference's checksum and its zigzag: they return what the program's own return. -/
import Derived.Test.YtncmbgdpmfoohaaDoorWireC
namespace Go.Proofs.YtncmbgdpmfoohaaDoor
open Go.RowKit

set_option maxHeartbeats 400000 in
theorem refZig_any (n : Int) (w : World) (h1 : -4611686018427387903 ≤ n) (h2 : n ≤ 4611686018427387903) :
    Calls Tryd.prog 25 #[.int .i64 n] w fun e w' => e = .returned (.int .u64 (foldZ n)) ∧ w = w' := by
  by_cases h : n < 0
  · rw [show ((foldZ n : Nat) : Int) = -n * 2 - 1 by unfold foldZ; rw [if_pos h]; omega]
    go_enter Tryd.func25, Tryd.ntmps25
    go_wp2
    go_ret
    exact ⟨rfl, rfl⟩
  · rw [show ((foldZ n : Nat) : Int) = n * 2 by unfold foldZ; rw [if_neg h]; omega]
    go_enter Tryd.func25, Tryd.ntmps25
    go_wp2
    go_ret
    exact ⟨rfl, rfl⟩

theorem crcN_last (j r : Nat) : crcN (j + 1) r = crcBit (crcN j r) := by rw [crcN_add]; rfl
theorem odd_true {r : Nat} (h : r % 2 = 1) : ((r : Int) % 2 == 1) = true := by
  simp
  omega
theorem odd_false {r : Nat} (h : ¬ r % 2 = 1) : ((r : Int) % 2 == 1) = false := by
  simp
  omega

set_option maxRecDepth 100000 in
set_option maxHeartbeats 2000000 in
theorem refSum_any (s : ByteArray) (w : World) (hs : s.size ≤ maxLen) :
    Calls Tryd.prog 22 #[.string s] w fun e w' => e = .returned (.int .i64 (sumN s.data.toList)) ∧ w = w' := by
  unfold maxLen at hs
  go_enter Tryd.func22, Tryd.ntmps22
  go_wp2
  go_loop [3, 4] (fun r i => ∃ k R : Nat, k ≤ s.size ∧ i = .int .i64 k ∧ R = crcAll (s.data.toList.take k) 4294967295 ∧ r = .int .u32 R) (fun _ i => s.size - (intOf i).toNat)
  case atStart => exact ⟨0, 4294967295, Nat.zero_le _, rfl, rfl, rfl⟩
  case round =>
    obtain ⟨k, R, hk, rfl, hR, rfl⟩ := hrel
    have hb : R < 2 ^ 32 := by rw [hR]; exact crcAll_lt _ (by decide)
    by_cases hlt : k < s.size
    · have hc := s[k].toNat_lt
      have e0 : ((s[k].toNat : Int) % 4294967296) = (s[k].toNat : Int) := by omega
      have e1 := xor32 hb (show s[k].toNat < 2 ^ 32 by omega)
      have b1 : R ^^^ s[k].toNat < 2 ^ 32 := Nat.xor_lt_two_pow hb (by omega)
      have HR := Lib.hid (show crcN 8 (R ^^^ s[k].toNat) = crcAll (s.data.toList.take (k + 1)) 4294967295 by rw [take_snoc s k hlt, crcAll_snoc, hR]; rfl)
      generalize R ^^^ s[k].toNat = R1 at *
      clear hR
      go_wp2
      go_loop [3, 5] (fun r j => ∃ m Q : Nat, m ≤ 8 ∧ j = .int .i64 m ∧ Q = crcN m R1 ∧ r = .int .u32 Q) (fun _ j => 8 - (intOf j).toNat)
      case atStart => exact ⟨0, R1, Nat.zero_le _, rfl, rfl, rfl⟩
      case round =>
        obtain ⟨m, Q, hm, rfl, hQ, rfl⟩ := hrel
        have hq : Q < 2 ^ 32 := by rw [hQ]; exact crcN_lt m b1
        by_cases h8 : m < 8
        · have HQ := Lib.hid (show crcN (m + 1) R1 = crcBit Q by rw [crcN_last, hQ])
          have hdv : (Q : Int).tdiv 2 = ((Q / 2 : Nat) : Int) := by rw [Int.tdiv_eq_ediv_of_nonneg (by omega)]; omega
          have hq2 : Q / 2 < 2 ^ 32 := by omega
          generalize hH : Q / 2 = Q2 at *
          have e2 := xor32 hq2 (show 2197175160 < 2 ^ 32 by decide)
          clear hQ
          by_cases ho : Q % 2 = 1
          · have h3 := odd_true ho
            have HE := Lib.hid (show crcBit Q = Q2 ^^^ 2197175160 by unfold crcBit; rw [if_pos ho, hH])
            have E2 := Lib.hid e2
            clear ho hH e2
            go_wp2
            go_round
            case rel => exact ⟨m + 1, _, by omega, by go_num, (HQ.out.trans HE.out).symm, vint E2.out⟩
            case measure => simp [intOf]; omega
          · have h3 := odd_false ho
            have HE := Lib.hid (show crcBit Q = Q2 by unfold crcBit; rw [if_neg ho, Nat.xor_zero, hH])
            clear ho hH
            go_wp2
            go_round
            case rel => exact ⟨m + 1, _, by omega, by go_num, (HQ.out.trans HE.out).symm, rfl⟩
            case measure => simp [intOf]; omega
        · have h9 : decide ((m : Int) < 8) = false := by rw [decide_eq_false_iff_not]; omega
          have HQ := Lib.hid (show Q = crcAll (s.data.toList.take (k + 1)) 4294967295 by rw [← HR.out, hQ, show m = 8 by omega])
          clear hQ h8 hm
          go_wp2
          go_round
          case rel => exact ⟨k + 1, Q, by omega, by go_num, HQ.out, rfl⟩
          case measure => simp [intOf]; omega
    · obtain rfl : k = s.size := by omega
      have e1 := xor32 (show 4294967295 < 2 ^ 32 by decide) hb
      have e2 : 4294967295 ^^^ R = sumN s.data.toList := by rw [hR, List.take_of_length_le (by simp)]; rfl
      have b1 := sumN_lt s.data.toList
      rw [e2] at e1
      have E1 := Lib.hid e1
      clear e1 e2 hR
      go_wp2
      go_ret
      refine ⟨retv (vint ?_), rfl⟩
      rw [show IntKind.u32.max = ((4294967295 : Nat) : Int) from rfl, E1.out]
      generalize sumN s.data.toList = S at *
      unfold wrap64
      omega
end Go.Proofs.YtncmbgdpmfoohaaDoor
