/- The checksum, and integers as natural numbers and back: what the program's own functions return. -/
import Derived.Test.YtncmbgdpmfoohaaDoorBase
import Derived.Test.YtncmbgdpmfoohaaDoorWireMath
import Derived.Test.YtncmbgdpmfoohaaDoorWireMath2
import Derived.LoopTactic
namespace Go.Proofs.YtncmbgdpmfoohaaDoor
open Go.RowKit

theorem retv {v v' : Value} (h : v = v') : Ending.returned v = .returned v' := by rw [h]
theorem vint {k : IntKind} {a b : Int} (h : a = b) : Value.int k a = .int k b := by rw [h]
theorem vbool {a b : Bool} (h : a = b) : Value.bool a = .bool b := by rw [h]

theorem xor32 {a b : Nat} (ha : a < 2 ^ 32) (hb : b < 2 ^ 32) : bits BinOp.xor IntKind.u32 (a : Int) (b : Int) = ((a ^^^ b : Nat) : Int) := by
  have h : a ^^^ b < 2 ^ 32 := Nat.xor_lt_two_pow ha hb
  have e : (BitVec.ofInt 32 (a : Int) ^^^ BitVec.ofInt 32 (b : Int)).toNat = a ^^^ b := by
    rw [BitVec.toNat_xor, BitVec.ofInt_natCast, BitVec.ofInt_natCast, BitVec.toNat_ofNat, BitVec.toNat_ofNat, Nat.mod_eq_of_lt ha, Nat.mod_eq_of_lt hb]
  show IntKind.u32.wrap (((BitVec.ofInt 32 (a : Int) ^^^ BitVec.ofInt 32 (b : Int)).toNat : Nat) : Int) = _
  rw [e]
  generalize a ^^^ b = x at *
  simp [IntKind.wrap, IntKind.bits, IntKind.signed]
  omega

set_option maxHeartbeats 400000 in
theorem fold_any (n : Int) (w : World) (h1 : -4611686018427387903 ≤ n) (h2 : n ≤ 4611686018427387903) :
    Calls Tryd.prog 24 #[.int .i64 n] w fun e w' => e = .returned (.int .u64 (foldZ n)) ∧ w = w' := by
  by_cases h : n < 0
  · rw [show ((foldZ n : Nat) : Int) = -2 * n - 1 by unfold foldZ; rw [if_pos h]; omega]
    go_enter Tryd.func24, Tryd.ntmps24
    go_wp2
    go_ret
    exact ⟨rfl, rfl⟩
  · rw [show ((foldZ n : Nat) : Int) = 2 * n by unfold foldZ; rw [if_neg h]; omega]
    go_enter Tryd.func24, Tryd.ntmps24
    go_wp2
    go_ret
    exact ⟨rfl, rfl⟩

set_option maxHeartbeats 400000 in
theorem unfold_any (z : Nat) (w : World) (h2 : z < 9223372036854775808) :
    Calls Tryd.prog 26 #[.int .u64 z] w fun e w' => e = .returned (.int .i64 (unZ z)) ∧ w = w' := by
  by_cases h : (z : Int) % 2 = 1
  · have E := Lib.hid (show unZ z = -((z : Int) / 2) - 1 by unfold unZ; rw [if_pos h])
    go_enter Tryd.func26, Tryd.ntmps26
    go_wp2
    go_ret
    exact ⟨retv (vint E.out.symm), rfl⟩
  · have E := Lib.hid (show unZ z = (z : Int) / 2 by unfold unZ; rw [if_neg h])
    go_enter Tryd.func26, Tryd.ntmps26
    go_wp2
    go_ret
    exact ⟨retv (vint E.out.symm), rfl⟩

/-- the table of the checksum -/
structure Tab (w : World) : Prop where
  size : 0 < w.heap.size
  cell : ∀ i : Nat, i < 16 → w.cell? ⟨0, i, none⟩ = some (.int .u32 (crcTab i))
theorem Tab.below {w w' : World} {B : Nat} (h : Tab w) (hb : Below B w w') (hB : 0 < B) : Tab w' :=
  ⟨Nat.lt_of_lt_of_le h.size hb.size, fun i hi => (hb.cell (p := ⟨0, i, none⟩) hB).trans (h.cell i hi)⟩
theorem Tab.next {w w' : World} (h : Tab w) (hb : Below w.heap.size w w') : Tab w' := h.below hb h.size

theorem take_snoc (s : ByteArray) (k : Nat) (h : k < s.size) : s.data.toList.take (k + 1) = s.data.toList.take k ++ [s[k]] := by
  rw [List.take_succ_eq_append_getElem (by simpa using h)]; rfl

/-- four bits of the checksum, as the walk meets them -/
theorem step_facts (R : Nat) (hR : R < 2 ^ 32) : ((R : Int).tmod 16 = ((R % 16 : Nat) : Int)) ∧ ((R : Int) / 16 = ((R / 16 : Nat) : Int)) ∧ bits BinOp.xor IntKind.u32 ((R / 16 : Nat) : Int) ((crcTab (R % 16) : Nat) : Int) = ((crcStep R : Nat) : Int) ∧ crcStep R < 2 ^ 32 := by
  have ht : ∀ t : Fin 16, crcTab t.val < 2 ^ 32 := by decide
  have ht' := ht ⟨R % 16, Nat.mod_lt _ (by decide)⟩
  refine ⟨by rw [Int.tmod_eq_emod_of_nonneg (by omega)]; omega, by omega, ?_, Nat.xor_lt_two_pow (by omega) ht'⟩
  rw [xor32 (by omega) ht']
  rfl

set_option maxHeartbeats 1000000 in
theorem sum_any (s : ByteArray) (w : World) (hs : s.size ≤ maxLen) (T : Tab w) :
    Calls Tryd.prog 21 #[.string s] w fun e w' => e = .returned (.int .i64 (sumN s.data.toList)) ∧ w = w' := by
  unfold maxLen at hs
  have HT := Lib.hid T
  clear T
  go_enter Tryd.func21, Tryd.ntmps21
  go_wp2
  go_loop [3, 7] (fun r i => ∃ k R : Nat, k ≤ s.size ∧ i = .int .i64 k ∧ R = crcAll (s.data.toList.take k) 4294967295 ∧ r = .int .u32 R) (fun _ i => s.size - (intOf i).toNat)
  case atStart => exact ⟨0, 4294967295, Nat.zero_le _, rfl, rfl, rfl⟩
  case round =>
    obtain ⟨k, R, hk, rfl, hR, rfl⟩ := hrel
    have hb : R < 2 ^ 32 := by rw [hR]; exact crcAll_lt _ (by decide)
    by_cases hlt : k < s.size
    · have hc := s[k].toNat_lt
      have e0 : ((s[k].toNat : Int) % 4294967296) = (s[k].toNat : Int) := by omega
      have e1 := xor32 hb (show s[k].toNat < 2 ^ 32 by omega)
      have b1 : R ^^^ s[k].toNat < 2 ^ 32 := Nat.xor_lt_two_pow hb (by omega)
      have HR := Lib.hid (show crcStep (crcStep (R ^^^ s[k].toNat)) = crcAll (s.data.toList.take (k + 1)) 4294967295 by rw [take_snoc s k hlt, crcAll_snoc, crcByte_eq, hR])
      generalize R ^^^ s[k].toNat = R1 at *
      obtain ⟨f1, f2, f3, b2⟩ := step_facts R1 b1
      generalize crcStep R1 = R2 at *
      obtain ⟨g1, g2, g3, b3⟩ := step_facts R2 b2
      generalize crcStep R2 = R3 at *
      have c1 := HT.out.cell (R1 % 16) (Nat.mod_lt _ (by decide))
      have c2 := HT.out.cell (R2 % 16) (Nat.mod_lt _ (by decide))
      have d1 : R1 % 16 < 16 := Nat.mod_lt _ (by decide)
      have d2 : R2 % 16 < 16 := Nat.mod_lt _ (by decide)
      generalize R1 % 16 = i1 at *
      generalize R2 % 16 = i2 at *
      generalize R1 / 16 = q1 at *
      generalize R2 / 16 = q2 at *
      generalize crcTab i1 = t1 at *
      generalize crcTab i2 = t2 at *
      clear hR
      go_wp2
      go_round
      case rel => exact ⟨k + 1, R3, by omega, by go_num, HR.out, rfl⟩
      case measure => simp [intOf]; omega
    · obtain rfl : k = s.size := by omega
      have e1 := xor32 (show 4294967295 < 2 ^ 32 by decide) hb
      have e2 : 4294967295 ^^^ R = sumN s.data.toList := by rw [hR, List.take_of_length_le (by simp)]; rfl
      have b1 := sumN_lt s.data.toList
      rw [e2] at e1
      have E1 := Lib.hid e1
      clear e1 e2 hR
      go_wp2
      go_ret
      refine ⟨retv (vint ?_), rfl⟩
      rw [show IntKind.u32.max = ((4294967295 : Nat) : Int) from rfl, E1.out]
      generalize sumN s.data.toList = S at *
      unfold wrap64
      omega
end Go.Proofs.YtncmbgdpmfoohaaDoor
