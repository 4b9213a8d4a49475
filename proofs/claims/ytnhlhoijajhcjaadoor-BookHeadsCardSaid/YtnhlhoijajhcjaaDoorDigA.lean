/- SHA-256: rotations, the words' bytes. -/
import Derived.Test.YtnhlhoijajhcjaaDoorDigMath
import Derived.Test.YtnhlhoijajhcjaaDoorBytes
import Derived.LoopTactic
import Derived.Maps.AppendAt
import Derived.RangeFuncBox
set_option linter.unusedVariables false
set_option linter.unusedSimpArgs false
set_option linter.unnecessarySimpa false
namespace Go.Proofs.YtnhlhoijajhcjaaDoor
open Go.RowKit

theorem retv {v v' : Value} (h : v = v') : Ending.returned v = .returned v' := by rw [h]
theorem vint {k : IntKind} {a b : Int} (h : a = b) : Value.int k a = .int k b := by rw [h]
theorem vbool {a b : Bool} (h : a = b) : Value.bool a = .bool b := by rw [h]

/-! ### bits of words -/
theorem wrap32 {n : Nat} (h : n < 2 ^ 32) : IntKind.u32.wrap (n : Int) = (n : Int) := by
  simp [IntKind.wrap, IntKind.bits, IntKind.signed]
  omega
theorem xor32 {a b : Nat} (ha : a < 2 ^ 32) (hb : b < 2 ^ 32) : bits BinOp.xor IntKind.u32 (a : Int) (b : Int) = ((a ^^^ b : Nat) : Int) := by
  have e : (BitVec.ofInt 32 (a : Int) ^^^ BitVec.ofInt 32 (b : Int)).toNat = a ^^^ b := by
    rw [BitVec.toNat_xor, BitVec.ofInt_natCast, BitVec.ofInt_natCast, BitVec.toNat_ofNat, BitVec.toNat_ofNat, Nat.mod_eq_of_lt ha, Nat.mod_eq_of_lt hb]
  show IntKind.u32.wrap (((BitVec.ofInt 32 (a : Int) ^^^ BitVec.ofInt 32 (b : Int)).toNat : Nat) : Int) = _
  rw [e]
  exact wrap32 (Nat.xor_lt_two_pow ha hb)
theorem or32 {a b : Nat} (ha : a < 2 ^ 32) (hb : b < 2 ^ 32) : bits BinOp.or IntKind.u32 (a : Int) (b : Int) = ((a ||| b : Nat) : Int) := by
  have e : (BitVec.ofInt 32 (a : Int) ||| BitVec.ofInt 32 (b : Int)).toNat = a ||| b := by
    rw [BitVec.toNat_or, BitVec.ofInt_natCast, BitVec.ofInt_natCast, BitVec.toNat_ofNat, BitVec.toNat_ofNat, Nat.mod_eq_of_lt ha, Nat.mod_eq_of_lt hb]
  show IntKind.u32.wrap (((BitVec.ofInt 32 (a : Int) ||| BitVec.ofInt 32 (b : Int)).toNat : Nat) : Int) = _
  rw [e]
  exact wrap32 (Nat.or_lt_two_pow ha hb)
theorem and32 {a b : Nat} (ha : a < 2 ^ 32) (hb : b < 2 ^ 32) : bits BinOp.and IntKind.u32 (a : Int) (b : Int) = ((a &&& b : Nat) : Int) := by
  have e : (BitVec.ofInt 32 (a : Int) &&& BitVec.ofInt 32 (b : Int)).toNat = a &&& b := by
    rw [BitVec.toNat_and, BitVec.ofInt_natCast, BitVec.ofInt_natCast, BitVec.toNat_ofNat, BitVec.toNat_ofNat, Nat.mod_eq_of_lt ha, Nat.mod_eq_of_lt hb]
  show IntKind.u32.wrap (((BitVec.ofInt 32 (a : Int) &&& BitVec.ofInt 32 (b : Int)).toNat : Nat) : Int) = _
  rw [e]
  exact wrap32 (Nat.and_lt_two_pow _ hb)
theorem rot_lt (x n : Nat) (hx : x < 2 ^ 32) : Sha.rot x n < 2 ^ 32 := by
  unfold Sha.rot
  refine Nat.or_lt_two_pow (Nat.mod_lt _ (by decide)) ?_
  rw [Nat.shiftRight_eq_div_pow]
  exact Nat.lt_of_le_of_lt (Nat.div_le_self _ _) hx

theorem rot_eq (x K : Nat) (hx : x < 2 ^ 32) (hK : K ≤ 32) (c d : Int) (hc : c = ((2 ^ (32 - K) : Nat) : Int)) (hd : d = ((2 ^ K : Nat) : Int)) :
    bits BinOp.or IntKind.u32 (IntKind.u32.wrap ((x : Int) * c)) ((x : Int) / d) = ((Sha.rot x K : Nat) : Int) := by
  subst hc hd
  have e1 : IntKind.u32.wrap ((x : Int) * ((2 ^ (32 - K) : Nat) : Int)) = (((x <<< (32 - K)) % 4294967296 : Nat) : Int) := by
    rw [Nat.shiftLeft_eq]
    simp [IntKind.wrap, IntKind.bits, IntKind.signed]
  have e2 : (x : Int) / ((2 ^ K : Nat) : Int) = ((x >>> K : Nat) : Int) := by
    rw [Nat.shiftRight_eq_div_pow]
    simp
  have b2 : x >>> K < 2 ^ 32 := by
    rw [Nat.shiftRight_eq_div_pow]
    exact Nat.lt_of_le_of_lt (Nat.div_le_self _ _) hx
  rw [e1, e2, or32 (Nat.mod_lt _ (by decide)) b2]
  rfl
set_option maxHeartbeats 400000 in
theorem rotl_2 (x : Nat) (w : World) (hx : x < 2 ^ 32) : Calls Tryd.prog 88 #[.int .u32 x, .int .i64 (-2)] w fun e w' => e = .returned (.int .u32 (Sha.rot x 2)) ∧ w = w' := by
  have ek : bits .and .u64 (IntKind.u64.wrap (-2)) 31 = 30 := by decide
  have E := Lib.hid (rot_eq x 2 hx (by decide) (2 ^ 30) (2 ^ 2) (by decide) (by decide))
  go_enter Tryd.func88, Tryd.ntmps88
  go_wp2
  go_ret
  refine ⟨retv (vint (Eq.trans ?_ E.out)), rfl⟩
  rfl
set_option maxHeartbeats 400000 in
theorem rotl_6 (x : Nat) (w : World) (hx : x < 2 ^ 32) : Calls Tryd.prog 88 #[.int .u32 x, .int .i64 (-6)] w fun e w' => e = .returned (.int .u32 (Sha.rot x 6)) ∧ w = w' := by
  have ek : bits .and .u64 (IntKind.u64.wrap (-6)) 31 = 26 := by decide
  have E := Lib.hid (rot_eq x 6 hx (by decide) (2 ^ 26) (2 ^ 6) (by decide) (by decide))
  go_enter Tryd.func88, Tryd.ntmps88
  go_wp2
  go_ret
  refine ⟨retv (vint (Eq.trans ?_ E.out)), rfl⟩
  rfl
set_option maxHeartbeats 400000 in
theorem rotl_7 (x : Nat) (w : World) (hx : x < 2 ^ 32) : Calls Tryd.prog 88 #[.int .u32 x, .int .i64 (-7)] w fun e w' => e = .returned (.int .u32 (Sha.rot x 7)) ∧ w = w' := by
  have ek : bits .and .u64 (IntKind.u64.wrap (-7)) 31 = 25 := by decide
  have E := Lib.hid (rot_eq x 7 hx (by decide) (2 ^ 25) (2 ^ 7) (by decide) (by decide))
  go_enter Tryd.func88, Tryd.ntmps88
  go_wp2
  go_ret
  refine ⟨retv (vint (Eq.trans ?_ E.out)), rfl⟩
  rfl
set_option maxHeartbeats 400000 in
theorem rotl_11 (x : Nat) (w : World) (hx : x < 2 ^ 32) : Calls Tryd.prog 88 #[.int .u32 x, .int .i64 (-11)] w fun e w' => e = .returned (.int .u32 (Sha.rot x 11)) ∧ w = w' := by
  have ek : bits .and .u64 (IntKind.u64.wrap (-11)) 31 = 21 := by decide
  have E := Lib.hid (rot_eq x 11 hx (by decide) (2 ^ 21) (2 ^ 11) (by decide) (by decide))
  go_enter Tryd.func88, Tryd.ntmps88
  go_wp2
  go_ret
  refine ⟨retv (vint (Eq.trans ?_ E.out)), rfl⟩
  rfl
set_option maxHeartbeats 400000 in
theorem rotl_13 (x : Nat) (w : World) (hx : x < 2 ^ 32) : Calls Tryd.prog 88 #[.int .u32 x, .int .i64 (-13)] w fun e w' => e = .returned (.int .u32 (Sha.rot x 13)) ∧ w = w' := by
  have ek : bits .and .u64 (IntKind.u64.wrap (-13)) 31 = 19 := by decide
  have E := Lib.hid (rot_eq x 13 hx (by decide) (2 ^ 19) (2 ^ 13) (by decide) (by decide))
  go_enter Tryd.func88, Tryd.ntmps88
  go_wp2
  go_ret
  refine ⟨retv (vint (Eq.trans ?_ E.out)), rfl⟩
  rfl
set_option maxHeartbeats 400000 in
theorem rotl_17 (x : Nat) (w : World) (hx : x < 2 ^ 32) : Calls Tryd.prog 88 #[.int .u32 x, .int .i64 (-17)] w fun e w' => e = .returned (.int .u32 (Sha.rot x 17)) ∧ w = w' := by
  have ek : bits .and .u64 (IntKind.u64.wrap (-17)) 31 = 15 := by decide
  have E := Lib.hid (rot_eq x 17 hx (by decide) (2 ^ 15) (2 ^ 17) (by decide) (by decide))
  go_enter Tryd.func88, Tryd.ntmps88
  go_wp2
  go_ret
  refine ⟨retv (vint (Eq.trans ?_ E.out)), rfl⟩
  rfl
set_option maxHeartbeats 400000 in
theorem rotl_18 (x : Nat) (w : World) (hx : x < 2 ^ 32) : Calls Tryd.prog 88 #[.int .u32 x, .int .i64 (-18)] w fun e w' => e = .returned (.int .u32 (Sha.rot x 18)) ∧ w = w' := by
  have ek : bits .and .u64 (IntKind.u64.wrap (-18)) 31 = 14 := by decide
  have E := Lib.hid (rot_eq x 18 hx (by decide) (2 ^ 14) (2 ^ 18) (by decide) (by decide))
  go_enter Tryd.func88, Tryd.ntmps88
  go_wp2
  go_ret
  refine ⟨retv (vint (Eq.trans ?_ E.out)), rfl⟩
  rfl
set_option maxHeartbeats 400000 in
theorem rotl_19 (x : Nat) (w : World) (hx : x < 2 ^ 32) : Calls Tryd.prog 88 #[.int .u32 x, .int .i64 (-19)] w fun e w' => e = .returned (.int .u32 (Sha.rot x 19)) ∧ w = w' := by
  have ek : bits .and .u64 (IntKind.u64.wrap (-19)) 31 = 13 := by decide
  have E := Lib.hid (rot_eq x 19 hx (by decide) (2 ^ 13) (2 ^ 19) (by decide) (by decide))
  go_enter Tryd.func88, Tryd.ntmps88
  go_wp2
  go_ret
  refine ⟨retv (vint (Eq.trans ?_ E.out)), rfl⟩
  rfl
set_option maxHeartbeats 400000 in
theorem rotl_22 (x : Nat) (w : World) (hx : x < 2 ^ 32) : Calls Tryd.prog 88 #[.int .u32 x, .int .i64 (-22)] w fun e w' => e = .returned (.int .u32 (Sha.rot x 22)) ∧ w = w' := by
  have ek : bits .and .u64 (IntKind.u64.wrap (-22)) 31 = 10 := by decide
  have E := Lib.hid (rot_eq x 22 hx (by decide) (2 ^ 10) (2 ^ 22) (by decide) (by decide))
  go_enter Tryd.func88, Tryd.ntmps88
  go_wp2
  go_ret
  refine ⟨retv (vint (Eq.trans ?_ E.out)), rfl⟩
  rfl
set_option maxHeartbeats 400000 in
theorem rotl_25 (x : Nat) (w : World) (hx : x < 2 ^ 32) : Calls Tryd.prog 88 #[.int .u32 x, .int .i64 (-25)] w fun e w' => e = .returned (.int .u32 (Sha.rot x 25)) ∧ w = w' := by
  have ek : bits .and .u64 (IntKind.u64.wrap (-25)) 31 = 7 := by decide
  have E := Lib.hid (rot_eq x 25 hx (by decide) (2 ^ 7) (2 ^ 25) (by decide) (by decide))
  go_enter Tryd.func88, Tryd.ntmps88
  go_wp2
  go_ret
  refine ⟨retv (vint (Eq.trans ?_ E.out)), rfl⟩
  rfl
theorem rotl_any (x k : Nat) (w : World) (hx : x < 2 ^ 32) (hk : k ∈ [2, 6, 7, 11, 13, 17, 18, 19, 22, 25]) : Calls Tryd.prog 88 #[.int .u32 x, .int .i64 (-(k : Int))] w fun e w' => e = .returned (.int .u32 (Sha.rot x k)) ∧ w = w' := by
  simp only [List.mem_cons, List.not_mem_nil, or_false] at hk
  rcases hk with rfl | rfl | rfl | rfl | rfl | rfl | rfl | rfl | rfl | rfl
  · exact rotl_2 x w hx
  · exact rotl_6 x w hx
  · exact rotl_7 x w hx
  · exact rotl_11 x w hx
  · exact rotl_13 x w hx
  · exact rotl_17 x w hx
  · exact rotl_18 x w hx
  · exact rotl_19 x w hx
  · exact rotl_22 x w hx
  · exact rotl_25 x w hx

/-- the rotations by all of a list, joined -/
def turnedN (x : Nat) (ks : List Nat) : Nat := ks.foldl (fun a k => a ^^^ Sha.rot x k) 0
theorem turnedN_more (x : Nat) (ks : List Nat) (k : Nat) : turnedN x (ks ++ [k]) = turnedN x ks ^^^ Sha.rot x k := by simp [turnedN]
theorem turnedN_lt (x : Nat) (hx : x < 2 ^ 32) : ∀ ks : List Nat, turnedN x ks < 2 ^ 32 := by
  intro ks
  have : ∀ (ks : List Nat) (a : Nat), a < 2 ^ 32 → ks.foldl (fun a k => a ^^^ Sha.rot x k) a < 2 ^ 32 := by
    intro ks
    induction ks with
    | nil => intro a ha; exact ha
    | cons k ks ih => intro a ha; exact ih _ (Nat.xor_lt_two_pow ha (rot_lt x k hx))
  exact this ks 0 (by decide)
abbrev wordV (x : Nat) : Value := .int .u32 x
abbrev natV (x : Nat) : Value := .int .i64 x

set_option maxRecDepth 100000 in
set_option maxHeartbeats 1000000 in
theorem turned_any (x b cap : Nat) (ks : List Nat) (w : World) (hx : x < 2 ^ 32) (hR : Row w b 3 (ks.map natV)) (hl : ks.length ≤ 4) (hk : ∀ k ∈ ks, k ∈ [2, 6, 7, 11, 13, 17, 18, 19, 22, 25]) :
    Calls Tryd.prog 85 #[.int .u32 x, .slice (some ⟨b, 0, none⟩) ks.length cap] w fun e w' => e = .returned (.int .u32 (turnedN x ks)) ∧ w = w' := by
  have HR := Lib.hid hR
  have HK := Lib.hid hk
  clear hR hk
  go_enter Tryd.func85, Tryd.ntmps85
  go_wp2
  go_loop [5, 10] (fun r i => ∃ j : Nat, j ≤ ks.length ∧ i = .int .i64 j ∧ r = .int .u32 (turnedN x (ks.take j))) (fun _ i => ks.length - (intOf i).toNat)
  case atStart => exact ⟨0, Nat.zero_le _, rfl, rfl⟩
  case round =>
    obtain ⟨j, hj, rfl, rfl⟩ := hrel
    by_cases hlt : j < ks.length
    · have hc := HR.out.cell j
      rw [List.getElem?_map, List.getElem?_eq_getElem hlt] at hc
      simp only [Option.map_some] at hc
      have hm := HK.out ks[j] (List.getElem_mem _)
      have CR := Lib.hid (fun w => rotl_any x ks[j] w hx hm)
      have hb : ks[j] ≤ 25 := by
        simp only [List.mem_cons, List.not_mem_nil, or_false] at hm
        omega
      have HT := Lib.hid (show turnedN x (ks.take (j + 1)) = turnedN x (ks.take j) ^^^ Sha.rot x ks[j] by rw [List.take_succ_eq_append_getElem hlt, turnedN_more])
      have e1 := xor32 (turnedN_lt x hx (ks.take j)) (rot_lt x ks[j] hx)
      rw [← HT.out] at e1
      clear HT hm
      generalize ks[j] = k at *
      generalize turnedN x (ks.take j) = a at *
      generalize hA : turnedN x (ks.take (j + 1)) = a' at *
      have HA := Lib.hid hA
      clear hA
      generalize Sha.rot x k = r at *
      go_wp2_with (go_at_call 88; refine (CR.out _).mono ?_; rintro e w' ⟨rfl, rfl⟩)
      go_round
      case rel => exact ⟨j + 1, by omega, by go_num, by rw [HA.out]⟩
      case measure => simp [intOf]; omega
    · obtain rfl : j = ks.length := by omega
      rw [List.take_length]
      go_wp2
      go_ret
      exact ⟨rfl, rfl⟩
end Go.Proofs.YtnhlhoijajhcjaaDoor
