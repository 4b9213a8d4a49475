/- Minute: for all arguments. -/
import Derived.Test.YtdldokhiefeloaaDoorCalR
namespace Go.Proofs.YtdldokhiefeloaaDoor
open Go.RowKit

def minuteR (c : Civ) (o : Int) : Int × Int := if offsetB o = true ∧ (atR c o).2 = true ∧ ((partsR (atR c o).1 o).w != c.w) = false then ((atR c o).1, 0) else (0, 60)

set_option maxRecDepth 100000 in
set_option maxHeartbeats 4000000 in
theorem minute_any (c : Civ) (o : Int) (w : World) (T : CTab w) :
    Calls Tryd.prog 47 #[civA c, .int .i64 o] w fun e w' => e = .returned (.tuple #[.int .i64 (minuteR c o).1, .int .i64 (minuteR c o).2]) ∧ Below w.heap.size w w' := by
  have HT := Lib.hid T
  have HO := Lib.hid (fun w => isOffset_any o w)
  have HA := Lib.hid (fun w T => at_any c o w T)
  obtain ⟨V, hV⟩ : ∃ V, V = minuteR c o := ⟨_, rfl⟩
  rw [← hV]
  unfold minuteR at hV
  clear T
  cases ho : offsetB o
  · rw [ho] at HO hV
    rw [if_neg (fun h => by cases h.1)] at hV
    subst hV
    clear ho HA
    go_enter Tryd.func47, Tryd.ntmps47
    go_wp2_with (refine Calls.mono (HO.out _) ?_; rintro e w' ⟨rfl, rfl⟩)
    go_ret2
    exact ⟨rfl, by (repeat' first | with_reducible exact Below.refl _ _ | with_reducible assumption | (with_reducible refine below_drewN ?_ _) | (with_reducible refine Below.drew ?_) | (with_reducible refine Below.alloc ?_ ?_ _) | (with_reducible refine Below.setCell ?_ ?_ _) | omega | (simp; done) | (simp; omega))⟩
  rw [ho] at HO hV
  clear ho
  generalize atR c o = A at *
  obtain ⟨x, ok⟩ := A
  have HP := Lib.hid (fun w T => parts_any x o w T)
  dsimp only at hV HA
  cases ok
  · rw [if_neg (fun h => by cases h.2.1)] at hV
    subst hV
    clear HP
    go_enter Tryd.func47, Tryd.ntmps47
    go_wp2_with (first | (go_at_call 70; refine Calls.mono (HO.out _) ?_; rintro e w' ⟨rfl, rfl⟩))
    refine (HA.out _ (HT.out.next (by (repeat' first | with_reducible exact Below.refl _ _ | with_reducible assumption | (with_reducible refine below_drewN ?_ _) | (with_reducible refine Below.drew ?_) | (with_reducible refine Below.alloc ?_ ?_ _) | (with_reducible refine Below.setCell ?_ ?_ _) | omega | (simp; done) | (simp; omega))))).mono ?_
    rintro e w2 ⟨rfl, hb⟩
    obtain ⟨hc2, hf2, hz2⟩ := after (B := w.heap.size) 1 hb (by first | assumption | (simp; done) | (simp; omega) | omega | (have := HS.out; omega)); have HB2 := Lib.hid hb; clear hb
    go_wp2
    go_ret2
    exact ⟨rfl, by (repeat' first | with_reducible exact Below.refl _ _ | with_reducible assumption | (with_reducible refine below_drewN ?_ _) | (with_reducible refine Below.drew ?_) | (with_reducible refine Below.alloc ?_ ?_ _) | (with_reducible refine Below.setCell ?_ ?_ _) | (with_reducible refine Below.andThen ?_ HB2.out) | (with_reducible exact HB2.out.size) | omega | (simp; done) | (simp; omega))⟩
  · generalize partsR x o = R at *
    generalize partsE x o = E at *
    obtain ⟨p1, p2, p3, p4, p5, p6⟩ := R
    dsimp only at hV HP
    simp only [true_and] at hV
    cases hc : (p6 != c.w)
    all_goals
      rw [hc] at hV
      simp only [if_true, Bool.true_eq_false, if_false] at hV
      subst hV
      go_enter Tryd.func47, Tryd.ntmps47
      go_wp2_with (first | (go_at_call 70; refine Calls.mono (HO.out _) ?_; rintro e w' ⟨rfl, rfl⟩))
      refine (HA.out _ (HT.out.next (by (repeat' first | with_reducible exact Below.refl _ _ | with_reducible assumption | (with_reducible refine below_drewN ?_ _) | (with_reducible refine Below.drew ?_) | (with_reducible refine Below.alloc ?_ ?_ _) | (with_reducible refine Below.setCell ?_ ?_ _) | omega | (simp; done) | (simp; omega))))).mono ?_
      rintro e w2 ⟨rfl, hb⟩
      obtain ⟨hc2, hf2, hz2⟩ := after (B := w.heap.size) 1 hb (by first | assumption | (simp; done) | (simp; omega) | omega | (have := HS.out; omega)); have HB2 := Lib.hid hb; clear hb
      have HT2 := Lib.hid ((HT.out.next (show Below w.heap.size w (w.alloc (.cells #[.int .i64 c.y, .int .i64 c.m, .int .i64 c.d, .int .i64 c.h, .int .i64 c.n, .int .i64 c.w] 57)) by (repeat' first | with_reducible exact Below.refl _ _ | with_reducible assumption | (with_reducible refine below_drewN ?_ _) | (with_reducible refine Below.drew ?_) | (with_reducible refine Below.alloc ?_ ?_ _) | (with_reducible refine Below.setCell ?_ ?_ _) | omega | (simp; done) | (simp; omega)))).next HB2.out)
      go_wp2_with fail
      refine (HP.out _ HT2.out).mono ?_
      rintro e w3 ⟨rfl, hb⟩
      obtain ⟨hd3, hg3, hy3⟩ := after (B := w.heap.size) 1 hb (by first | assumption | (simp; done) | (simp; omega) | omega | (have := HS.out; omega)); obtain ⟨hc3, hf3, hz3⟩ := after (B := w2.heap.size) 0 hb (by first | assumption | (simp; done) | (simp; omega) | omega | (have := HS.out; omega)); have HB3 := Lib.hid hb; clear hb
      have z0 : w3.heap.size ≠ w.heap.size := by omega
      have y0 : w.heap.size < w3.heap.size := by omega
      have y1 : w.heap.size < w2.heap.size := by omega
      go_wp2
      go_ret2
      exact ⟨rfl, by (repeat' first | with_reducible exact Below.refl _ _ | with_reducible assumption | (with_reducible refine below_drewN ?_ _) | (with_reducible refine Below.drew ?_) | (with_reducible refine Below.alloc ?_ ?_ _) | (with_reducible refine Below.setCell ?_ ?_ _) | (with_reducible refine Below.andThen ?_ HB3.out) | (with_reducible exact HB3.out.size) | (with_reducible refine Below.andThen ?_ HB2.out) | (with_reducible exact HB2.out.size) | omega | (simp; done) | (simp; omega))⟩
end Go.Proofs.YtdldokhiefeloaaDoor
