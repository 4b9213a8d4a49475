/- The small calls of package calendar: leap, Days, isMinute, isOffset, padded. -/
import Derived.Test.YtdldokhiefeloaaDoorUnitA
import Derived.Test.YtdldokhiefeloaaDoorBytes
namespace Go.Proofs.YtdldokhiefeloaaDoor
open Go.RowKit

/-- the lengths of the months -/
def lenL : List Int := [31, 28, 31, 30, 31, 30, 31, 31, 30, 31, 30, 31]
structure CTab (w : World) : Prop where
  size : 1 < w.heap.size
  cell : ∀ i : Nat, i < 12 → w.cell? ⟨1, i, none⟩ = some (.int .i64 (lenL.getD i 0))
theorem CTab.below {w w' : World} {B : Nat} (h : CTab w) (hb : Below B w w') (hB : 1 < B) : CTab w' :=
  ⟨Nat.lt_of_lt_of_le h.size hb.size, fun i hi => (hb.cell (p := ⟨1, i, none⟩) hB).trans (h.cell i hi)⟩
theorem CTab.next {w w' : World} (h : CTab w) (hb : Below w.heap.size w w') : CTab w' := h.below hb h.size

def leapB (y : Int) : Bool := (y % 4 == 0 && y % 100 != 0) || y % 400 == 0
def daysZ (y m : Int) : Int := if y < 1 ∨ 9999 < y ∨ m < 1 ∨ 12 < m then 0 else if m = 2 ∧ leapB y = true then 29 else lenL.getD (m - 1).toNat 0
def minuteB (m : Int) : Bool := decide (0 ≤ m) && decide (m ≤ 50000000)
def offsetB (o : Int) : Bool := decide (-840 ≤ o) && decide (o ≤ 840)

set_option maxHeartbeats 400000 in
theorem leap_any (y : Int) (w : World) (h0 : 0 ≤ y) :
    Calls Tryd.prog 80 #[.int .i64 y] w fun e w' => e = .returned (.bool (leapB y)) ∧ w = w' := by
  obtain ⟨b1, e1⟩ : ∃ b, (y % 4 == 0) = b := ⟨_, rfl⟩
  obtain ⟨b2, e2⟩ : ∃ b, (y % 100 == 0) = b := ⟨_, rfl⟩
  obtain ⟨b3, e3⟩ : ∃ b, (y % 400 == 0) = b := ⟨_, rfl⟩
  have E := Lib.hid (show leapB y = ((b1 && !b2) || b3) by unfold leapB; rw [e1, e3, ← e2]; rfl)
  cases b1 <;> cases b2 <;> cases b3
  all_goals
    have e2' : (y % 100 != 0) = !(y % 100 == 0) := rfl
    rw [e2] at e2'
    go_enter Tryd.func80, Tryd.ntmps80
    go_wp2
    go_ret
    exact ⟨by rw [E.out]; rfl, rfl⟩

set_option maxHeartbeats 400000 in
theorem isMinute_any (m : Int) (w : World) : Calls Tryd.prog 69 #[.int .i64 m] w fun e w' => e = .returned (.bool (minuteB m)) ∧ w = w' := by
  go_enter Tryd.func69, Tryd.ntmps69
  go_wp2
  all_goals
    go_ret
    refine ⟨retv (vbool ?_), rfl⟩
    first | (simp [minuteB, *]; done) | (simp [minuteB, *]; omega)
set_option maxHeartbeats 400000 in
theorem isOffset_any (m : Int) (w : World) : Calls Tryd.prog 70 #[.int .i64 m] w fun e w' => e = .returned (.bool (offsetB m)) ∧ w = w' := by
  go_enter Tryd.func70, Tryd.ntmps70
  go_wp2
  all_goals
    go_ret
    refine ⟨retv (vbool ?_), rfl⟩
    first | (simp [offsetB, *]; done) | (simp [offsetB, *]; omega)

set_option maxHeartbeats 1000000 in
theorem days_any (y m : Int) (w : World) (T : CTab w) :
    Calls Tryd.prog 51 #[.int .i64 y, .int .i64 m] w fun e w' => e = .returned (.int .i64 (daysZ y m)) ∧ w = w' := by
  by_cases h : y < 1 ∨ 9999 < y ∨ m < 1 ∨ 12 < m
  · rw [show daysZ y m = 0 by simp [daysZ, h]]
    have key : y < 1 ∨ (¬ y < 1 ∧ 9999 < y) ∨ (¬ y < 1 ∧ ¬ 9999 < y ∧ m < 1) ∨ (¬ y < 1 ∧ ¬ 9999 < y ∧ ¬ m < 1 ∧ 12 < m) := by omega
    clear h T
    rcases key with k | ⟨k, k2⟩ | ⟨k, k2, k3⟩ | ⟨k, k2, k3, k4⟩
    all_goals
      go_enter Tryd.func51, Tryd.ntmps51
      go_wp2
      go_ret
      exact ⟨rfl, rfl⟩
  · have k1 : ¬ y < 1 := by omega
    have k2 : ¬ 9999 < y := by omega
    have L := Lib.hid (fun w => leap_any y w (by omega))
    obtain ⟨k, rfl⟩ : ∃ k : Nat, m = (k : Int) + 1 := ⟨(m - 1).toNat, by omega⟩
    have hk : k < 12 := by omega
    have tc := T.cell k hk
    have ts := T.size
    have E := Lib.hid (show daysZ y ((k : Int) + 1) = if k = 1 ∧ leapB y = true then 29 else lenL.getD k 0 by
      unfold daysZ
      rw [if_neg h, show ((k : Int) + 1 - 1).toNat = k by omega]
      have : ((k : Int) + 1 = 2) ↔ k = 1 := by omega
      simp only [this])
    generalize lenL.getD k 0 = v at *
    clear h T
    have k3 : ¬ (k : Int) + 1 < 1 := by omega
    have k4 : ¬ 12 < (k : Int) + 1 := by omega
    by_cases h2 : k = 1
    · subst h2
      cases hl : leapB y
      · rw [hl] at L
        have E2 := Lib.hid (show daysZ y (((1 : Nat) : Int) + 1) = v by rw [E.out]; simp [hl])
        clear E hl
        go_enter Tryd.func51, Tryd.ntmps51
        go_wp2_with fail
        refine (L.out _).mono ?_
        rintro e w' ⟨rfl, rfl⟩
        go_wp2
        go_ret
        exact ⟨retv (vint E2.out.symm), rfl⟩
      · rw [hl] at L
        have E2 := Lib.hid (show daysZ y (((1 : Nat) : Int) + 1) = 29 by rw [E.out]; simp [hl])
        clear E hl
        go_enter Tryd.func51, Tryd.ntmps51
        go_wp2_with fail
        refine (L.out _).mono ?_
        rintro e w' ⟨rfl, rfl⟩
        go_wp2
        go_ret
        exact ⟨retv (vint E2.out.symm), rfl⟩
    · have h3 : ¬ (k : Int) + 1 = 2 := by omega
      have E2 := Lib.hid (show daysZ y ((k : Int) + 1) = v by rw [E.out]; simp [h2])
      clear E h2
      go_enter Tryd.func51, Tryd.ntmps51
      go_wp2
      go_ret
      exact ⟨retv (vint E2.out.symm), rfl⟩
end Go.Proofs.YtdldokhiefeloaaDoor
