/- The reference's digits and number. -/
import Derived.Test.YtdldokhiefeloaaDoorCalRA
import Derived.Test.YtdldokhiefeloaaDoorCalB
namespace Go.Proofs.YtdldokhiefeloaaDoor
open Go.RowKit

theorem run_one_byteC {P : Program} (w : World) (src dst e : TypeId) (b cap : Nat) (x : Int) (hs : P.underlying src = some (.slice e)) (he : P.underlying e = some (.int .u8)) (hd : P.underlying dst = some .string) (hx : 0 ≤ x ∧ x < 256)
    (h : w.cell? ⟨b, 0, none⟩ = some (.int .u8 x)) : (convert src dst (.slice (some ⟨b, 0, none⟩) 1 cap)).run P w = .ok (.string ⟨#[UInt8.ofNat x.toNat]⟩) w :=
  run_convert_bytes_back w src dst e ⟨b, 0, none⟩ cap [UInt8.ofNat x.toNat] hs he hd fun j hj => by
    obtain rfl : j = 0 := by simpa using hj
    have e : Addr.add ⟨b, 0, none⟩ 0 = ⟨b, 0, none⟩ := by unfold Addr.add; split <;> simp_all
    rw [e, h]
    simp
    omega

/-- what is left after some digits, and the digits -/
def cutN (n : Int) : Nat → Int
  | 0 => n
  | i + 1 => cutN n i / 10
def digS (n : Int) : Nat → ByteArray
  | 0 => ⟨#[]⟩
  | i + 1 => (⟨#[UInt8.ofNat (48 + cutN n i % 10).toNat]⟩ : ByteArray) ++ digS n i
theorem cutN_bd (n : Int) (h : 0 ≤ n) (i : Nat) : 0 ≤ cutN n i := by
  induction i with
  | zero => exact h
  | succ i ih => unfold cutN; omega
theorem digS_size (n : Int) (i : Nat) : (digS n i).size = i := by
  induction i with
  | zero => rfl
  | succ i ih => unfold digS; rw [ByteArray.size_append, ih]; show 1 + i = i + 1; omega
theorem digS_2 {n : Int} (h : 0 ≤ n ∧ n ≤ 99) : digS n 2 = padS n := by
  unfold padS
  simp only [digS, cutN]
  rw [show n / 10 % 10 = n / 10 by omega]
  rfl
theorem digS_4 {n : Int} (h : 0 ≤ n ∧ n ≤ 9999) : digS n 4 = padS (n / 100) ++ padS (n % 100) := by
  unfold padS
  simp only [digS, cutN]
  rw [show n / 10 / 10 / 10 % 10 = n / 100 / 10 by omega, show n / 10 / 10 % 10 = n / 100 % 10 by omega, show n / 10 % 10 = n % 100 / 10 by omega, show n % 10 = n % 100 % 10 by omega]
  rfl

set_option maxRecDepth 100000 in
set_option maxHeartbeats 2000000 in
theorem refDigits_any (n : Int) (K : Nat) (w : World) (h0 : 0 ≤ n) (h1 : n ≤ 1000000) (hK : K ≤ 4) :
    Calls Tryd.prog 76 #[.int .i64 n, .int .i64 K] w fun e w' => e = .returned (.string (digS n K)) ∧ Below w.heap.size w w' := by
  go_enter Tryd.func76, Tryd.ntmps76
  go_wp2_with fail
  go_loopw [0, 5, 6] (fun c s i wr => ∃ j : Nat, j ≤ K ∧ i = .int .i64 j ∧ c = .int .i64 (cutN n j) ∧ s = .string (digS n j) ∧ Below w.heap.size w wr) (fun _ _ i _ => K - (intOf i).toNat)
  case atStart => exact ⟨0, Nat.zero_le _, rfl, rfl, rfl, Below.refl _ _⟩
  case round =>
    obtain ⟨j, hj, rfl, rfl, rfl, hB⟩ := hrel
    have HB := Lib.hid hB
    clear hB
    by_cases hlt : j < K
    · have hb := decide (((j : Int)) < K)
      have c0 := cutN_bd n h0 j
      have c1 : cutN n j ≤ 1000000 := by
        have : ∀ i, cutN n i ≤ n := fun i => by
          induction i with
          | zero => exact Int.le_refl _
          | succ i ih => have := cutN_bd n h0 i; unfold cutN; omega
        exact Int.le_trans (this j) h1
      have DS := Lib.hid (show digS n (j + 1) = (⟨#[UInt8.ofNat (48 + cutN n j % 10).toNat]⟩ : ByteArray) ++ digS n j from rfl)
      have CN := Lib.hid (show cutN n (j + 1) = cutN n j / 10 from rfl)
      have sz := digS_size n j
      generalize cutN n j = c at *
      generalize digS n j = s at *
      have r0 : 0 ≤ c % 10 := by omega
      have r1 : c % 10 ≤ 9 := by omega
      have hcv := (fun (W : World) (b cap : Nat) (c0 : W.cell? ⟨b, 0, none⟩ = some (.int .u8 (48 + c % 10))) =>
        run_one_byteC (P := Tryd.prog) W 103 9 5 b cap (48 + c % 10) (by kernel_rfl) (by kernel_rfl) (by kernel_rfl) (by omega) c0)
      have sz2 : (⟨#[UInt8.ofNat (48 + c % 10).toNat]⟩ : ByteArray).size = 1 := rfl
      clear hb
      go_wp2_with fail
      go_roundw
      case rel => exact ⟨j + 1, by omega, by go_num, by rw [CN.out], by rw [DS.out], HB.out.alloc HB.out.size _⟩
      case measure => simp [intOf]; omega
    · obtain rfl : j = K := by omega
      go_wp2_with fail
      go_ret
      exact ⟨rfl, HB.out⟩

def numR (s : ByteArray) : Int := if (digitsR s).2 = true then (digitsR s).1 else -1
set_option maxRecDepth 100000 in
set_option maxHeartbeats 1000000 in
theorem refNumber_any (s : ByteArray) (w : World) (hs : s.size ≤ 1000) :
    Calls Tryd.prog 79 #[.string s] w fun e w' => e = .returned (.int .i64 (numR s)) ∧ w = w' := by
  have bad : ∀ k (hk : k < s.size), digB s[k] = false → numR s = -1 := fun k hk hb => by
    unfold numR digitsR
    rw [if_neg (c := s.data.toList.all digB = true)]
    · rfl
    · intro h
      have := List.all_eq_true.1 h (s[k]) (by show s.data[k] ∈ s.data.toList; simp)
      rw [hb] at this
      cases this
  obtain ⟨V, hV⟩ : ∃ V, V = numR s := ⟨_, rfl⟩
  rw [← hV] at bad ⊢
  have HV := Lib.hid hV
  have BAD := Lib.hid bad
  clear bad hV
  go_enter Tryd.func79, Tryd.ntmps79
  go_wp2_with fail
  go_loopw [3, 4] (fun n c wr => ∃ k : Nat, k ≤ s.size ∧ n = .int .i64 (dgF (s.data.toList.take k)) ∧ c = .int .i64 k ∧ (s.data.toList.take k).all digB = true ∧ wr = w) (fun _ c _ => s.size - (intOf c).toNat)
  case atStart => exact ⟨0, Nat.zero_le _, rfl, rfl, rfl, rfl⟩
  case round =>
    obtain ⟨k, hk, rfl, rfl, hall, rfl⟩ := hrel
    have HA := Lib.hid hall
    clear hall
    by_cases hlt : k < s.size
    · have i1 := fun (w : World) => run_index_at (P := Tryd.prog) w 9 s .i64 k rfl hlt
      obtain ⟨x, ex⟩ : ∃ x, x = s[k] := ⟨_, rfl⟩
      have M := Lib.hid (take_byte s hlt)
      have BB := Lib.hid (BAD.out k hlt)
      rw [← ex] at M BB
      rw [← ex] at i1
      have hx : x.toNat < 256 := x.toNat_lt
      have DM := Lib.hid (dgF_more (s.data.toList.take k) x)
      have DB := Lib.hid (show digB x = (decide (48 ≤ x.toNat) && decide (x.toNat ≤ 57)) from rfl)
      have ML := Lib.hid (show (s.data.toList.take k ++ [x]).all digB = digB x by rw [List.all_append, HA.out]; simp)
      generalize dgF (s.data.toList.take k) = n at *
      generalize x.toNat = m at *
      clear ex
      by_cases g0 : m < 48
      · have R := Lib.hid (BB.out (by rw [DB.out]; simp; omega))
        obtain rfl := R.out
        go_wp2_with fail
        go_ret
        exact ⟨rfl, rfl⟩
      · by_cases g1 : 57 < m
        · have R := Lib.hid (BB.out (by rw [DB.out]; simp; omega))
          obtain rfl := R.out
          go_wp2_with fail
          go_ret
          exact ⟨rfl, rfl⟩
        · have A2 := Lib.hid (show (s.data.toList.take (k + 1)).all digB = true by rw [M.out, ML.out, DB.out]; simp; omega)
          have D2 := Lib.hid (show dgF (s.data.toList.take (k + 1)) = wrap64 (wrap64 (10 * n) + ((m : Int) - 48)) by rw [M.out, DM.out])
          clear DB DM M BB BAD ML HV
          go_wp2_with fail
          go_roundw
          case rel => exact ⟨k + 1, by omega, by rw [D2.out], by go_num, A2.out, trivial⟩
          case measure => simp [intOf]; omega
    · obtain rfl : k = s.size := by omega
      have e : s.data.toList.take s.size = s.data.toList := List.take_of_length_le (by simp)
      rw [e] at HA ⊢
      have R : V = dgF s.data.toList := by rw [HV.out]; unfold numR digitsR; rw [if_pos HA.out]; rfl
      subst R
      clear e BAD HV
      go_wp2_with fail
      go_ret
      exact ⟨rfl, rfl⟩
end Go.Proofs.YtdldokhiefeloaaDoor
