/- The printed dates and times of later minutes are greater as strings. -/
import Derived.Test.YtdldokhiefeloaaDoorCalOA
namespace Go.Proofs.YtdldokhiefeloaaDoor
open Go.RowKit

theorem bytesLess_eq : ∀ x y : List UInt8, Op.bytesLess x y = bytesLessT x y
  | x, [] => by cases x <;> rfl
  | [], _ :: _ => rfl
  | a :: x, b :: y => by simp only [Op.bytesLess, bytesLessT, bytesLess_eq x y]
theorem date_bytes (c : Civ) : (dateS c).data.toList = padL (c.y / 100) ++ (padL (c.y % 100) ++ ([45] ++ (padL c.m ++ ([45] ++ padL c.d)))) := by
  unfold dateS
  rw [List.map_cons, Lib.join_cons, app_list]
  simp only [List.map_cons, List.map_nil, Lib.joinTail, List.flatten_cons, List.flatten_nil, List.append_assoc, List.append_nil]
  rfl
theorem clock_bytes (c : Civ) : (clockS c).data.toList = padL c.h ++ ([58] ++ padL c.n) := by
  unfold clockS
  rw [app_list, app_list, List.append_assoc]
  rfl
theorem both_bytes (c : Civ) : (dateS c ++ clockS c).toList = padL (c.y / 100) ++ (padL (c.y % 100) ++ ([45] ++ (padL c.m ++ ([45] ++ (padL c.d ++ (padL c.h ++ ([58] ++ padL c.n))))))) := by
  rw [ByteArray.toList_eq, app_list, date_bytes, clock_bytes]
  simp only [List.append_assoc]
def InCiv (c : Civ) : Prop := 1999 ≤ c.y ∧ c.y ≤ 2099 ∧ 1 ≤ c.m ∧ c.m ≤ 12 ∧ 1 ≤ c.d ∧ c.d ≤ 31 ∧ 0 ≤ c.h ∧ c.h < 24 ∧ 0 ≤ c.n ∧ c.n < 60
theorem printed_less {A B : Civ} (ha : InCiv A) (hb : InCiv B) (h : Parts5 A B) : Op.bytesLess (dateS A ++ clockS A).toList (dateS B ++ clockS B).toList = true := by
  rw [bytesLess_eq, both_bytes, both_bytes]
  obtain ⟨a1, a2, a3, a4, a5, a6⟩ := A
  obtain ⟨b1, b2, b3, b4, b5, b6⟩ := B
  unfold InCiv at ha hb
  unfold Parts5 at h
  dsimp only at ha hb h ⊢
  rcases h with h | ⟨rfl, h | ⟨rfl, h | ⟨rfl, h | ⟨rfl, h⟩⟩⟩⟩
  · by_cases hc : a1 / 100 = b1 / 100
    · rw [hc, less_same]
      exact pad_less (by omega) (by omega) (by omega) _ _
    · exact pad_less (by omega) (by omega) (by omega) _ _
  · rw [less_same, less_same, less_same]
    exact pad_less (by omega) (by omega) h _ _
  · rw [less_same, less_same, less_same, less_same, less_same]
    exact pad_less (by omega) (by omega) h _ _
  · rw [less_same, less_same, less_same, less_same, less_same, less_same]
    exact pad_less (by omega) (by omega) h _ _
  · rw [less_same, less_same, less_same, less_same, less_same, less_same, less_same, less_same]
    have := pad_less (a := a5) (b := b5) (by omega) (by omega) h [] []
    rwa [List.append_nil, List.append_nil] at this
theorem date_size (c : Civ) : (dateS c).size = 10 := by
  show (dateS c).data.toList.length = 10
  rw [date_bytes]
  rfl
theorem clock_size (c : Civ) : (clockS c).size = 5 := by
  show (clockS c).data.toList.length = 5
  rw [clock_bytes]
  rfl
theorem print_ok {m o : Int} (hm : 0 ≤ m ∧ m ≤ 50000000) (ho : -840 ≤ o ∧ o ≤ 840) : printR m o = (dateS (civOf (m + o)), clockS (civOf (m + o)), 0) ∧ InCiv (civOf (m + o)) := by
  obtain ⟨g, e1, _⟩ := parts_ok hm ho
  have hin := parts_in g
  rw [e1] at hin
  refine ⟨?_, hin⟩
  unfold printR
  rw [if_pos g, e1]
end Go.Proofs.YtdldokhiefeloaaDoor
