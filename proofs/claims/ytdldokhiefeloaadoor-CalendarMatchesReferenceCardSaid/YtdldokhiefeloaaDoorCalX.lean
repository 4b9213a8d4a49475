/- What the statements on the calendar need of minutes within bounds: Parts and Minute come out as they should. -/
import Derived.Test.YtdldokhiefeloaaDoorCalFrame
namespace Go.Proofs.YtdldokhiefeloaaDoor
open Go.RowKit

theorem parts_ok {m o : Int} (hm : 0 ≤ m ∧ m ≤ 50000000) (ho : -840 ≤ o ∧ o ≤ 840) : (minuteB m && offsetB o) = true ∧ partsR m o = civOf (m + o) ∧ partsE m o = 0 := by
  have h : (minuteB m && offsetB o) = true := by unfold minuteB offsetB; simp; omega
  refine ⟨h, ?_, ?_⟩
  · unfold partsR; rw [if_pos h]
  · unfold partsE; rw [if_pos h]
theorem wrap_in {x : Int} (h : -9223372036854775808 ≤ x ∧ x ≤ 9223372036854775807) : wrap64 x = x := IntWalk.wrap64_in _ h
theorem minute_back {m o : Int} (hm : 0 ≤ m ∧ m ≤ 50000000) (ho : -840 ≤ o ∧ o ≤ 840) : minuteR (partsR m o) o = (m, 0) := by
  obtain ⟨h, hp, he⟩ := parts_ok hm ho
  obtain ⟨hd, hl⟩ := civ_back (L := m + o) (by omega) (by omega)
  have ha : atR (partsR m o) o = (m, true) := by
    unfold atR
    rw [hp, if_pos hd, hl, wrap_in (by omega), show m + o - o = m by omega]
    unfold minuteB
    simp
    omega
  unfold minuteR
  rw [ha, if_pos]
  rw [Bool.and_eq_true] at h
  exact ⟨h.2, rfl, by simp⟩
theorem civ_w {L : Int} : (civOf L).w = (dayOf L + 12) % 7 := rfl
end Go.Proofs.YtdldokhiefeloaaDoor
