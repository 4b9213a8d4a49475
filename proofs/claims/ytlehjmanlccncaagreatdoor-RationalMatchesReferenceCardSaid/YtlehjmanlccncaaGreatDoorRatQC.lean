/- The package's functions at valid fractions. -/
import Derived.Test.YtlehjmanlccncaaGreatDoorRatFr
import Derived.Test.YtlehjmanlccncaaGreatDoorRatGG
import Derived.Test.YtlehjmanlccncaaGreatDoorRatWB
import Derived.Test.YtlehjmanlccncaaGreatDoorRatLp
import Derived.Test.YtlehjmanlccncaaGreatDoorRatTen
set_option linter.unusedVariables false
set_option linter.unusedSimpArgs false
namespace Go.Proofs.YtlehjmanlccncaaGreatDoor
open Go.RowKit

section
variable {p q r : Int × Int} (hp : Ra.Ok p)
include hp
theorem Add_q (hq : Ra.Ok q) (e : Ra.addO (some p) (some q) = some r) (W : World) (T : RW W) :
    Calls Tryz.prog 38 #[ratV (Ra.tx (some p)), ratV (Ra.tx (some q))] W fun e w' => e = .returned (.tuple #[ratV (Ra.tx (some r)), .int .i64 0]) ∧ Below W.heap.size W w' := by
  have k := Add_r (Ra.tx (some p)) (Ra.tx (some q)) W T.tab
  rw [Ra.val_tx hp, Ra.val_tx hq, e] at k
  exact k
theorem Sub_q (hq : Ra.Ok q) (e : Ra.subO (some p) (some q) = some r) (W : World) (T : RW W) :
    Calls Tryz.prog 40 #[ratV (Ra.tx (some p)), ratV (Ra.tx (some q))] W fun e w' => e = .returned (.tuple #[ratV (Ra.tx (some r)), .int .i64 0]) ∧ Below W.heap.size W w' := by
  have k := Sub_r (Ra.tx (some p)) (Ra.tx (some q)) W T.tab
  rw [Ra.val_tx hp, Ra.val_tx hq, e] at k
  exact k
theorem Mul_q (hq : Ra.Ok q) (e : Ra.mulO (some p) (some q) = some r) (W : World) (T : RW W) :
    Calls Tryz.prog 39 #[ratV (Ra.tx (some p)), ratV (Ra.tx (some q))] W fun e w' => e = .returned (.tuple #[ratV (Ra.tx (some r)), .int .i64 0]) ∧ Below W.heap.size W w' := by
  have k := Mul_r (Ra.tx (some p)) (Ra.tx (some q)) W T.tab
  rw [Ra.val_tx hp, Ra.val_tx hq, e] at k
  exact k
theorem Div_q (hq : Ra.Ok q) (e : Ra.divO (some p) (some q) = some r) (W : World) (T : RW W) :
    Calls Tryz.prog 45 #[ratV (Ra.tx (some p)), ratV (Ra.tx (some q))] W fun e w' => e = .returned (.tuple #[ratV (Ra.tx (some r)), .int .i64 0]) ∧ Below W.heap.size W w' := by
  have k := Div_r (Ra.tx (some p)) (Ra.tx (some q)) W T.tab
  rw [Ra.val_tx hp, Ra.val_tx hq, e] at k
  exact k
theorem Cmp_q {c : Int} (hq : Ra.Ok q) (e : Ra.cmpO (some p) (some q) = c) (W : World) (T : RW W) :
    Calls Tryz.prog 20 #[ratV (Ra.tx (some p)), ratV (Ra.tx (some q))] W fun e w' => e = .returned (.int .i64 c) ∧ Below W.heap.size W w' := by
  have k := Compare_r (Ra.tx (some p)) (Ra.tx (some q)) W T.tab
  rw [Ra.val_tx hp, Ra.val_tx hq, e] at k
  exact k
theorem Valid_q (W : World) (T : RW W) : Calls Tryz.prog 29 #[ratV (Ra.tx (some p))] W fun e w' => e = .returned (.bool true) ∧ Below W.heap.size W w' := by
  have k := Valid_r (Ra.tx (some p)) W T.tab
  rw [Ra.val_tx hp] at k
  exact k
theorem minus_q (W : World) (T : RW W) : Calls Tryz.prog 42 #[ratV (Ra.tx (some p))] W fun e w' => e = .returned (ratV (Ra.tx (some (-p.1, p.2)))) ∧ Below W.heap.size W w' := by
  have k := minus_r (Ra.tx (some p)) W T
  rw [Ra.val_tx hp, show Ra.val (⟨#[48]⟩, ⟨#[49]⟩) = some (0, 1) by kernel_rfl, Ra.minus_is hp] at k
  exact k
theorem Down_q {k : Nat} (hk : k ≤ 30) (e : Ra.roundP false p k = some r) (W : World) (T : RW W) :
    Calls Tryz.prog 23 #[ratV (Ra.tx (some p)), .int .i64 k] W fun e w' => e = .returned (.tuple #[ratV (Ra.tx (some r)), .int .i64 0]) ∧ Below W.heap.size W w' := by
  have h := Down_r (Ra.tx (some p)) (k : Int) W T.tab
  have e2 : Ra.roundO false (some p) (k : Int) = some r := by
    unfold Ra.roundO
    dsimp only
    rw [if_pos ⟨by omega, by omega⟩, Int.toNat_natCast, e]
  rw [Ra.val_tx hp, e2] at h
  exact h
theorem Up_q {k : Nat} (hk : k ≤ 30) (e : Ra.roundP true p k = some r) (W : World) (T : RW W) :
    Calls Tryz.prog 25 #[ratV (Ra.tx (some p)), .int .i64 k] W fun e w' => e = .returned (.tuple #[ratV (Ra.tx (some r)), .int .i64 0]) ∧ Below W.heap.size W w' := by
  have h := Up_r (Ra.tx (some p)) (k : Int) W T.tab
  have e2 : Ra.roundO true (some p) (k : Int) = some r := by
    unfold Ra.roundO
    dsimp only
    rw [if_pos ⟨by omega, by omega⟩, Int.toNat_natCast, e]
  rw [Ra.val_tx hp, e2] at h
  exact h
end
end Go.Proofs.YtlehjmanlccncaaGreatDoor
