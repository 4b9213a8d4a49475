/- Powers of ten as texts. -/
import Derived.Test.YtlehjmanlccncaaGreatDoorRatGB
import Derived.Test.YtlehjmanlccncaaGreatDoorRatGM
set_option linter.unusedVariables false
set_option linter.unusedSimpArgs false
namespace Go.Proofs.YtlehjmanlccncaaGreatDoor
open Go.RowKit

def tenS (n : Nat) : ByteArray := ⟨(49 :: List.replicate n (48 : UInt8)).toArray⟩
theorem tenS_size (n : Nat) : (tenS n).size = n + 1 := by simp [tenS, ByteArray.size]
theorem tenS_0 : tenS 0 = ⟨#[49]⟩ := rfl
theorem tenS_next (n : Nat) : tenS n ++ ⟨#[48]⟩ = tenS (n + 1) := by
  apply ba_ext
  rw [ba_append]
  simp [tenS, List.replicate_succ']
theorem ten_dec (n : Nat) : (49 : UInt8) :: List.replicate n 48 = Lib.decDigits (10 ^ n) := by
  have h1 := In.val_dec n (List.replicate n 48) 49 (by simp) (fun c hc => by
    rcases List.mem_cons.1 hc with h | h
    · rw [h]; decide
    · rw [(List.mem_replicate.1 h).2]; decide) (.inl (by decide))
  rw [In.val10_cons, List.length_replicate, In.zeros_val, show In.dval 49 = 1 from rfl, Nat.mul_one, Nat.add_zero] at h1
  exact h1
theorem tenS_txt (n : Nat) : tenS n = In.txt ((10 : Int) ^ n) := by
  have e : (10 : Int) ^ n = ((10 ^ n : Nat) : Int) := by push_cast; rfl
  rw [e]
  unfold In.txt Lib.itoa
  rw [if_neg (Int.not_lt.2 (Int.natCast_nonneg _)), Int.toNat_natCast, ← ten_dec]
  rfl
theorem ten_tx (n : Nat) : (tenS n, (⟨#[49]⟩ : ByteArray)) = Ra.tx (some (10 ^ n, 1)) := by
  rw [tenS_txt, (In.num_some num1).1]
  rfl
theorem ten_tx' (n : Nat) : ((⟨#[49]⟩ : ByteArray), tenS n) = Ra.tx (some (1, 10 ^ n)) := by
  rw [tenS_txt, (In.num_some num1).1]
  rfl
theorem one_tx : ((⟨#[49]⟩ : ByteArray), (⟨#[49]⟩ : ByteArray)) = Ra.tx (some (1, 1)) := by
  rw [(In.num_some num1).1]
  rfl
end Go.Proofs.YtlehjmanlccncaaGreatDoor
