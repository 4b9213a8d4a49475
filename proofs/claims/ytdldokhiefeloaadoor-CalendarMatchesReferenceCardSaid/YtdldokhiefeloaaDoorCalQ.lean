/- Parts: the date and time of a minute, for all arguments. -/
import Derived.Test.YtdldokhiefeloaaDoorCalP
import Derived.Test.YtdldokhiefeloaaDoorCalK
import Derived.Test.YtdldokhiefeloaaDoorRegion
import Derived.Test.YtdldokhiefeloaaDoorMem
namespace Go.Proofs.YtdldokhiefeloaaDoor
open Go.RowKit

abbrev civV (y m d h n w : Int) : Value := .agg #[.int .i64 y, .int .i64 m, .int .i64 d, .int .i64 h, .int .i64 n, .int .i64 w]
abbrev civA (c : Civ) : Value := civV c.y c.m c.d c.h c.n c.w

theorem civ_ret {c : Civ} {y m d h n w e : Int} (h1 : y = c.y) (h2 : m = c.m) (h3 : d = c.d) (h4 : h = c.h) (h5 : n = c.n) (h6 : w = c.w) : Ending.returned (.tuple #[civV y m d h n w, .int .i64 e]) = Ending.returned (.tuple #[civA c, .int .i64 e]) := by subst h1 h2 h3 h4 h5 h6; rfl

set_option maxRecDepth 100000 in
theorem findDay_any (day : Int) (d : Nat) (w : World) (T : CTab w) (hd : w.cell? ⟨d, 0, none⟩ = some (.int .i64 day)) (h0 : -31 ≤ day) (h1 : day < 36525) :
    Calls Tryd.prog 71 #[.func (.func 72) #[] #[.pointer (some ⟨d, 0, none⟩)]] w fun e w' =>
      e = .returned (.tuple #[.agg #[.int .i64 (stM (mIdx day)).1, .int .i64 (stM (mIdx day)).2.1, .int .i64 (firstM (mIdx day))], .bool true]) ∧ Below w.heap.size w w' := by
  have hlt := World.block_lt_of_cell? w _ hd
  dsimp only at hlt
  have h := find_any 72 #[.pointer (some ⟨d, 0, none⟩)] (fun k => decide (day < firstM (k + 1))) w T (fun args w => enters_of Tryd.func72 (by kernel_rfl) rfl args w) (fun k W hk hb =>
    parts1_any (stM k).1 (stM k).2.1 (stM k).2.2 day d W (T.next hb) ((hb.cell (p := ⟨d, 0, none⟩) hlt).trans hd) (by have := firstM_bd k (by omega); unfold firstM at this; omega))
  rw [(mIdx_spec h0 h1).2.2.2] at h
  exact h

set_option maxRecDepth 100000 in
set_option maxHeartbeats 2000000 in
theorem parts_any (m o : Int) (w : World) (T : CTab w) :
    Calls Tryd.prog 43 #[.int .i64 m, .int .i64 o] w fun e w' => e = .returned (.tuple #[civA (partsR m o), .int .i64 (partsE m o)]) ∧ Below w.heap.size w w' := by
  have HM := Lib.hid (fun w => isMinute_any m w)
  have HO := Lib.hid (fun w => isOffset_any o w)
  obtain ⟨R, hR⟩ : ∃ R, R = partsR m o := ⟨_, rfl⟩
  obtain ⟨E, hE⟩ : ∃ E, E = partsE m o := ⟨_, rfl⟩
  rw [← hR, ← hE]
  have HT := Lib.hid T
  unfold partsR at hR
  unfold partsE at hE
  cases hm : minuteB m
  · rw [hm] at hR hE HM
    simp only [Bool.false_and, Bool.false_eq_true, if_false] at hR hE
    subst hR hE
    clear hm T
    go_enter Tryd.func43, Tryd.ntmps43
    go_wp2_with (refine Calls.mono (HM.out _) ?_; rintro e w' ⟨rfl, rfl⟩)
    refine bodyPost_ret (v := .tuple #[civV 0 0 0 0 0 0, .int .i64 60]) (by first | (simp [results, Tryd.results43, go_sem]; done) | simp [results, Tryd.results43, go_sem, *]) rfl ⟨rfl, (Below.refl _ _).alloc (Nat.le_refl _) _⟩
  cases ho : offsetB o
  · rw [hm, ho] at hR hE
    rw [hm] at HM
    rw [ho] at HO
    simp only [Bool.and_false, Bool.false_eq_true, if_false] at hR hE
    subst hR hE
    clear hm ho T
    go_enter Tryd.func43, Tryd.ntmps43
    go_wp2_with (first | (go_at_call 69; refine Calls.mono (HM.out _) ?_; rintro e w' ⟨rfl, rfl⟩) | (refine Calls.mono (HO.out _) ?_; rintro e w' ⟨rfl, rfl⟩))
    refine bodyPost_ret (v := .tuple #[civV 0 0 0 0 0 0, .int .i64 60]) (by first | (simp [results, Tryd.results43, go_sem]; done) | simp [results, Tryd.results43, go_sem, *]) rfl ⟨rfl, (Below.refl _ _).alloc (Nat.le_refl _) _⟩
  · rw [hm, ho] at hR hE
    have km : 0 ≤ m ∧ m ≤ 50000000 := by unfold minuteB at hm; simpa using hm
    have ko : -840 ≤ o ∧ o ≤ 840 := by unfold offsetB at ho; simpa using ho
    rw [hm] at HM
    rw [ho] at HO
    simp only [Bool.and_self, if_true] at hR hE
    subst hE
    clear hm ho
    have DB := day_bd (L := m + o) (by omega) (by omega)
    have MS := mIdx_spec (day := dayOf (m + o)) (by omega) (by omega)
    have FB := firstM_bd (mIdx (dayOf (m + o))) (by omega)
    have HF := Lib.hid (fun d w T hd => findDay_any (dayOf (m + o)) d w T hd (by omega) (by omega))
    have HR := Lib.hid (show R = (⟨(stM (mIdx (dayOf (m + o)))).1, (stM (mIdx (dayOf (m + o)))).2.1, dayOf (m + o) - firstM (mIdx (dayOf (m + o))) + 1, timeOf (m + o) / 60, timeOf (m + o) % 60, (dayOf (m + o) + 12) % 7⟩ : Civ) from hR)
    clear hR
    obtain ⟨D0, D1, D2, D3, D4⟩ := DB
    obtain ⟨M0, M1, M2, M3⟩ := MS
    clear M0 M2 M3
    generalize firstM (mIdx (dayOf (m + o))) = F at *
    generalize (stM (mIdx (dayOf (m + o)))).1 = Y at *
    generalize (stM (mIdx (dayOf (m + o)))).2.1 = M at *
    have ED := Lib.hid (show dayOf (m + o) = (m + o + 1440) / 1440 - 1 from rfl)
    have ET := Lib.hid (show timeOf (m + o) = (m + o + 1440) % 1440 from rfl)
    have q0 : 0 ≤ (m + o + 1440) / 1440 := by omega
    have q1 : (m + o + 1440) / 1440 ≤ 34724 := by omega
    have q2 : 0 ≤ (m + o + 1440) % 1440 := by omega
    have q3 : (m + o + 1440) % 1440 < 1440 := by omega
    rw [ED.out] at HF HR D0 D1 D4 M1
    rw [ET.out] at HR D2 D3 D4
    clear ED ET D4 D2 D3
    clear T
    go_enter Tryd.func43, Tryd.ntmps43
    go_wp2_with (first | (go_at_call 69; refine Calls.mono (HM.out _) ?_; rintro e w' ⟨rfl, rfl⟩) | (go_at_call 70; refine Calls.mono (HO.out _) ?_; rintro e w' ⟨rfl, rfl⟩))
    refine (HF.out _ _ (HT.out.next (by (repeat' first | exact Below.refl _ _ | assumption | (refine below_drewN ?_ _) | (refine Below.drew ?_) | (refine Below.alloc ?_ ?_ _) | (refine Below.setCell ?_ ?_ _) | (simp; done) | (simp; omega) | omega))) (by go_simp)).mono ?_
    rintro e w2 ⟨rfl, hb⟩
    obtain ⟨hc2, hf2, hz2⟩ := after (B := w.heap.size) 2 hb (by first | assumption | (simp; done) | (simp; omega) | omega | (have := HS.out; omega)); have HB2 := Lib.hid hb; clear hb
    have z0 : w2.heap.size ≠ w.heap.size := by omega
    have z1 : w2.heap.size ≠ w.heap.size + 1 := by omega
    have y0 : w.heap.size < w2.heap.size := by omega
    have y1 : w.heap.size + 1 < w2.heap.size := by omega
    go_wp2
    refine bodyPost_ret (v := .tuple #[civV Y M ((m + o + 1440) / 1440 - 1 - F + 1) ((m + o) % 1440 / 60) ((m + o) % 60) (((m + o + 1440) / 1440 - 1 + 5) % 7), .int .i64 0]) (by first | (simp [results, Tryd.results43, go_sem]; done) | simp [results, Tryd.results43, go_sem, *]) rfl ⟨?_, ?_⟩
    · rw [HR.out]
      refine civ_ret rfl rfl rfl ?_ ?_ ?_ <;> dsimp only <;> omega
    · clear hc2 hf2
      (repeat' first | with_reducible exact Below.refl _ _ | with_reducible assumption | (with_reducible refine below_drewN ?_ _) | (with_reducible refine Below.drew ?_) | (with_reducible refine Below.alloc ?_ ?_ _) | (with_reducible refine Below.setCell ?_ ?_ _) | (with_reducible refine Below.andThen ?_ HB2.out) | (with_reducible exact HB2.out.size) | omega | (simp; done) | (simp; omega))
end Go.Proofs.YtdldokhiefeloaaDoor
