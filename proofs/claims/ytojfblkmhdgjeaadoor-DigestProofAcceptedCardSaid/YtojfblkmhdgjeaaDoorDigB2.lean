/- The number of binary digits. -/
import Derived.Test.YtojfblkmhdgjeaaDoorDigFrame
namespace Go.Proofs.YtojfblkmhdgjeaaDoor
open Go.RowKit Go.Shelf
def binN (n : Nat) : Nat := if n = 0 then 0 else Nat.log2 n + 1
theorem binN_half {n : Nat} (h : 0 < n) : binN n = binN (n / 2) + 1 := by
  unfold binN
  rw [if_neg (by omega)]
  by_cases h2 : n / 2 = 0
  · rw [if_pos h2]
    have : n = 1 := by omega
    subst this
    rfl
  · rw [if_neg h2]
    conv => lhs; rw [Nat.log2_def, if_pos (by omega)]
theorem binN_lt (n : Nat) : n < 2 ^ binN n := by
  unfold binN
  split
  · rename_i h; rw [h]; decide
  · exact Nat.lt_log2_self
set_option maxHeartbeats 400000 in
theorem binary_any (n : Nat) (w : World) (hn : n ≤ 1000000) : Calls Tryd.prog 33 #[.int .i64 n] w fun e w' => e = .returned (.int .i64 (binN n)) ∧ w = w' := by
  obtain ⟨R, hR⟩ : ∃ R, R = binN n := ⟨_, rfl⟩
  have hR0 : R ≤ 64 := by
    rw [hR]
    unfold binN
    split
    · decide
    · have := (Nat.log2_lt (n := n) (k := 60) (by assumption)).2 (by omega)
      omega
  have HR := Lib.hid hR
  rw [← hR]
  clear hR
  go_enter Tryd.func33, Tryd.ntmps33
  go_wp2
  go_loop [0, 3] (fun x k => ∃ m j : Nat, m ≤ 1000000 ∧ x = .int .i64 m ∧ k = .int .i64 j ∧ R = j + binN m) (fun x _ => (intOf x).toNat)
  case atStart => exact ⟨n, 0, hn, rfl, rfl, by rw [HR.out]; omega⟩
  case round =>
    clear HR hn
    obtain ⟨m, j, hm, rfl, rfl, hr⟩ := hrel
    by_cases hlt : 0 < m
    · have HE := Lib.hid (show R = (j + 1) + binN (m / 2) by rw [hr, binN_half hlt]; omega)
      have hj : j ≤ 64 := by omega
      clear hr
      go_wp2
      go_round
      case rel => exact ⟨m / 2, j + 1, by omega, vint (by omega), by go_num, HE.out⟩
      case measure => simp [intOf]; omega
    · obtain rfl : m = 0 := by omega
      have HE := Lib.hid (show R = j by rw [hr]; rfl)
      clear hr
      go_wp2
      go_ret
      exact ⟨retv (vint (by rw [HE.out])), rfl⟩
end Go.Proofs.YtojfblkmhdgjeaaDoor
