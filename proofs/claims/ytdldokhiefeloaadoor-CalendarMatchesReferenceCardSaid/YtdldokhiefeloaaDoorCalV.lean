/- Read: for all arguments. -/
import Derived.Test.YtdldokhiefeloaaDoorCalU
import Derived.Test.YtdldokhiefeloaaDoorCalS
import Derived.Test.YtdldokhiefeloaaDoorCalT
namespace Go.Proofs.YtdldokhiefeloaaDoor
open Go.RowKit

structure CW (w : World) : Prop where
  tab : CTab w
  max : ∃ m, w.cell? ⟨2, 0, none⟩ = some (.int .i64 m)
theorem CW.next {w w' : World} (h : CW w) (hb : Below w.heap.size w w') : CW w' := by
  obtain ⟨m, hm⟩ := h.max
  exact ⟨h.tab.next hb, m, (hb.cell (p := ⟨2, 0, none⟩) (World.block_lt_of_cell? w _ hm)).trans hm⟩

def civL (c : Civ) : List Value := [.int .i64 c.y, .int .i64 c.m, .int .i64 c.d, .int .i64 c.h, .int .i64 c.n, .int .i64 c.w]
theorem setK_civ (c : Civ) (o : Nat) (ps : List ByteArray) (k : Nat) : ∃ c', setK (civL c) o ps k = civL c' := by
  induction k with
  | zero => exact ⟨c, rfl⟩
  | succ k ih =>
    obtain ⟨c', h⟩ := ih
    unfold setK
    rw [h]
    generalize o + k = j
    generalize (digitsR (pieceAt ps k)).1 = x
    match j with
    | 0 => exact ⟨{ c' with y := x }, rfl⟩
    | 1 => exact ⟨{ c' with m := x }, rfl⟩
    | 2 => exact ⟨{ c' with d := x }, rfl⟩
    | 3 => exact ⟨{ c' with h := x }, rfl⟩
    | 4 => exact ⟨{ c' with n := x }, rfl⟩
    | 5 => exact ⟨{ c' with w := x }, rfl⟩
    | j + 6 => exact ⟨c', rfl⟩
def dv (s sep : ByteArray) (j : Nat) : Int := (digitsR (pieceAt (pieces s sep) j)).1
def dateOk (s : ByteArray) : Bool := fieldsB (pieces s dash) [4, 2, 2]
def clockOk (s : ByteArray) : Bool := fieldsB (pieces s colon) [2, 2]
def readC (s t : ByteArray) : Civ := ⟨dv s dash 0, dv s dash 1, dv s dash 2, dv t colon 0, dv t colon 1, 0⟩
def readR (s t : ByteArray) (o : Int) : Int × Int := if offsetB o = true ∧ dateOk s = true ∧ clockOk t = true ∧ (atR (readC s t) o).2 = true then ((atR (readC s t) o).1, 0) else (0, 60)

set_option maxRecDepth 100000 in
set_option maxHeartbeats 4000000 in
theorem read_any (s t : ByteArray) (o : Int) (w : World) (T : CW w) (hs : s.size < 4294967281) (ht : t.size < 4294967281) :
    Calls Tryd.prog 49 #[.string s, .string t, .int .i64 o] w fun e w' => e = .returned (.tuple #[.int .i64 (readR s t o).1, .int .i64 (readR s t o).2]) ∧ Below w.heap.size w w' := by
  have HT := Lib.hid T
  have HO := Lib.hid (fun w => isOffset_any o w)
  obtain ⟨V, hV⟩ : ∃ V, V = readR s t o := ⟨_, rfl⟩
  rw [← hV]
  unfold readR at hV
  have HAT := Lib.hid (fun c w T => at_any c o w T)
  have R0 : Row (w.alloc (.cells #[.int .i64 0, .int .i64 0, .int .i64 0, .int .i64 0, .int .i64 0, .int .i64 0] 57)) w.heap.size 57 (civL noCiv) := Row.new _ _ _
  have B0 : Below w.heap.size w (w.alloc (.cells #[.int .i64 0, .int .i64 0, .int .i64 0, .int .i64 0, .int .i64 0, .int .i64 0] 57)) := (Below.refl _ _).alloc (Nat.le_refl _) _
  have T0 := T.next B0
  clear T
  cases ho : offsetB o
  · rw [ho] at hV HO
    rw [if_neg (fun h => by cases h.1)] at hV
    subst hV
    have HA := Lib.hid (fun w T => HAT.out noCiv w T)
    clear HAT
    generalize atR noCiv o = A at *
    obtain ⟨x, ok⟩ := A
    have HB0 := Lib.hid B0
    have HT0 := Lib.hid T0
    clear R0 B0 T0 ho
    go_enter Tryd.func49, Tryd.ntmps49
    go_wp2_with (first | (go_at_call 70; refine Calls.mono (HO.out _) ?_; rintro e w' ⟨rfl, rfl⟩))
    refine (HA.out _ HT0.out.tab).mono ?_
    rintro e w2 ⟨rfl, hb⟩
    have HB2 := Lib.hid (Below.andThen HB0.out hb)
    clear hb
    go_wp2
    go_ret2
    exact ⟨rfl, HB2.out⟩
  · rw [ho] at hV HO
    obtain ⟨m, hm⟩ := T0.max
    have g2 : 2 < w.heap.size := by
      obtain ⟨m', h⟩ := HT.out.max
      exact World.block_lt_of_cell? w _ h
    -- the three numbers of the date
    have B1 : Below w.heap.size w (((w.alloc (.cells #[.int .i64 0, .int .i64 0, .int .i64 0, .int .i64 0, .int .i64 0, .int .i64 0] 57)).alloc (.cells #[.int .i64 4, .int .i64 2, .int .i64 2] 3)).alloc (.cells #[.pointer (some ⟨w.heap.size, 0, none⟩), .pointer (some ⟨w.heap.size, 1, none⟩), .pointer (some ⟨w.heap.size, 2, none⟩)] 96)) := by (repeat' first | with_reducible exact Below.refl _ _ | with_reducible assumption | (with_reducible refine below_drewN ?_ _) | (with_reducible refine Below.drew ?_) | (with_reducible refine Below.alloc ?_ ?_ _) | (with_reducible refine Below.setCell ?_ ?_ _) | omega | (simp; done) | (simp; omega))
    obtain ⟨m1, hm1⟩ := (HT.out.next B1).max
    have F1 := fields_any s dash [4, 2, 2] 3 (w.heap.size + 1) (w.heap.size + 2) w.heap.size 0 w.heap.size 3 96 57 (civL noCiv) _ m1 hm1 hs (by decide) rfl (by omega)
      (by have h := (Row.new (w.alloc (.cells #[.int .i64 0, .int .i64 0, .int .i64 0, .int .i64 0, .int .i64 0, .int .i64 0] 57)) 3 [.int .i64 4, .int .i64 2, .int .i64 2]).alloc (.cells #[.pointer (some ⟨w.heap.size, 0, none⟩), .pointer (some ⟨w.heap.size, 1, none⟩), .pointer (some ⟨w.heap.size, 2, none⟩)] 96); rw [World.size_alloc] at h; exact h)
      (by have h := Row.new ((w.alloc (.cells #[.int .i64 0, .int .i64 0, .int .i64 0, .int .i64 0, .int .i64 0, .int .i64 0] 57)).alloc (.cells #[.int .i64 4, .int .i64 2, .int .i64 2] 3)) 96 [.pointer (some ⟨w.heap.size, 0, none⟩), .pointer (some ⟨w.heap.size, 1, none⟩), .pointer (some ⟨w.heap.size, 2, none⟩)]; rw [World.size_alloc, World.size_alloc] at h; exact h)
      ((R0.alloc _).alloc _) rfl (by omega) (Nat.le_refl _) (by omega) (by omega)
    change Calls _ _ _ _ (fun e w' => e = .returned (.bool (dateOk s)) ∧ ∃ k, (dateOk s = true → k = 3) ∧ Row w' w.heap.size 57 (setK (civL noCiv) 0 (pieces s dash) k) ∧ Below w.heap.size _ w') at F1
    have HF1 := Lib.hid F1
    have HB1 := Lib.hid B1
    clear R0 B0 T0 ho F1 B1 hm hm1
    cases hd : dateOk s
    · rw [hd] at hV HF1
      rw [if_neg (fun h => by cases h.2.1)] at hV
      subst hV
      clear hd
      go_enter Tryd.func49, Tryd.ntmps49
      go_wp2_with (first | (go_at_call 70; refine Calls.mono (HO.out _) ?_; rintro e w' ⟨rfl, rfl⟩))
      refine HF1.out.mono ?_
      rintro e w2 ⟨rfl, k, _, hR, hb⟩
      have HB2 := Lib.hid (Below.trans HB1.out hb)
      obtain ⟨c', hc'⟩ := setK_civ noCiv 0 (pieces s dash) k
      rw [hc'] at hR
      have r0 := hR.cell 0
      have r1 := hR.cell 1
      have r2 := hR.cell 2
      have r3 := hR.cell 3
      have r4 := hR.cell 4
      have r5 := hR.cell 5
      simp only [civL, List.getElem?_cons_zero, List.getElem?_cons_succ] at r0 r1 r2 r3 r4 r5
      clear hR hc' hb HF1
      have HA := Lib.hid (fun w T => HAT.out c' w T)
      clear HAT
      generalize atR c' o = A at *
      obtain ⟨x, ok⟩ := A
      go_wp2_with fail
      refine (HA.out _ (HT.out.next HB2.out).tab).mono ?_
      rintro e w3 ⟨rfl, hb⟩
      have HB3 := Lib.hid (Below.andThen HB2.out hb)
      clear hb r0 r1 r2 r3 r4 r5
      go_wp2
      go_ret2
      exact ⟨rfl, HB3.out⟩
    · rw [hd] at hV HF1
      clear hd
      obtain ⟨d0, hd0⟩ : ∃ x, x = dv s dash 0 := ⟨_, rfl⟩
      obtain ⟨d1, hd1⟩ : ∃ x, x = dv s dash 1 := ⟨_, rfl⟩
      obtain ⟨d2, hd2⟩ : ∃ x, x = dv s dash 2 := ⟨_, rfl⟩
      have F2 : ∀ (w2 : World), w.heap.size < w2.heap.size → CW w2 → Row w2 w.heap.size 57 (civL ⟨d0, d1, d2, 0, 0, 0⟩) → Calls Tryd.prog 78 #[.string t, .string colon, .slice (some ⟨w2.heap.size, 0, none⟩) 2 2, .slice (some ⟨w2.heap.size + 1, 0, none⟩) 2 2] ((w2.alloc (.cells #[.int .i64 2, .int .i64 2] 3)).alloc (.cells #[.pointer (some ⟨w.heap.size, 3, none⟩), .pointer (some ⟨w.heap.size, 4, none⟩)] 96)) (fun e w' => e = .returned (.bool (clockOk t)) ∧ ∃ k, (clockOk t = true → k = 2) ∧ Row w' w.heap.size 57 (setK (civL ⟨d0, d1, d2, 0, 0, 0⟩) 3 (pieces t colon) k) ∧ Below w.heap.size ((w2.alloc (.cells #[.int .i64 2, .int .i64 2] 3)).alloc (.cells #[.pointer (some ⟨w.heap.size, 3, none⟩), .pointer (some ⟨w.heap.size, 4, none⟩)] 96)) w') := by
        intro w2 hw2 T2 hR
        have BB : Below w2.heap.size w2 ((w2.alloc (.cells #[.int .i64 2, .int .i64 2] 3)).alloc (.cells #[.pointer (some ⟨w.heap.size, 3, none⟩), .pointer (some ⟨w.heap.size, 4, none⟩)] 96)) := by (repeat' first | with_reducible exact Below.refl _ _ | with_reducible assumption | (with_reducible refine below_drewN ?_ _) | (with_reducible refine Below.drew ?_) | (with_reducible refine Below.alloc ?_ ?_ _) | (with_reducible refine Below.setCell ?_ ?_ _) | omega | (simp; done) | (simp; omega))
        obtain ⟨m2, hm2⟩ := (T2.next BB).max
        exact fields_any t colon [2, 2] 2 w2.heap.size (w2.heap.size + 1) w.heap.size 3 w.heap.size 3 96 57 (civL ⟨d0, d1, d2, 0, 0, 0⟩) _ m2 hm2 ht (by decide) rfl (by omega)
          ((Row.new w2 3 [.int .i64 2, .int .i64 2]).alloc (.cells #[.pointer (some ⟨w.heap.size, 3, none⟩), .pointer (some ⟨w.heap.size, 4, none⟩)] 96))
          (by have h := Row.new (w2.alloc (.cells #[.int .i64 2, .int .i64 2] 3)) 96 [.pointer (some ⟨w.heap.size, 3, none⟩), .pointer (some ⟨w.heap.size, 4, none⟩)]; rw [World.size_alloc] at h; exact h)
          ((hR.alloc _).alloc _) rfl (by omega) (Nat.le_refl _) (by omega) (by omega)
      have HF2 := Lib.hid F2
      clear F2
      cases hc : clockOk t
      · rw [hc] at hV HF2
        rw [if_neg (fun h => by cases h.2.2.1)] at hV
        subst hV
        go_enter Tryd.func49, Tryd.ntmps49
        go_wp2_with (first | (go_at_call 70; refine Calls.mono (HO.out _) ?_; rintro e w' ⟨rfl, rfl⟩))
        refine HF1.out.mono ?_
        rintro e w2 ⟨rfl, k, hk, hR, hb⟩
        obtain rfl := hk (by trivial)
        have HB2 := Lib.hid (Below.trans HB1.out hb)
        have hR2 : Row w2 w.heap.size 57 (civL ⟨d0, d1, d2, 0, 0, 0⟩) := by rw [hd0, hd1, hd2]; exact hR
        have T2 := HT.out.next HB2.out
        have hsz : w.heap.size < w2.heap.size := by have := hb.size; simp at this; omega
        have CF2 := Lib.hid (HF2.out w2 hsz T2 hR2)
        clear hR hR2 hb HF1 HF2 hk hsz
        go_wp2_with fail
        refine CF2.out.mono ?_
        rintro e w3 ⟨rfl, k, hk, hR, hb⟩
        have HB3 := Lib.hid (Below.trans (Below.trans HB2.out (show Below w.heap.size w2 ((w2.alloc (.cells #[.int .i64 2, .int .i64 2] 3)).alloc (.cells #[.pointer (some ⟨w.heap.size, 3, none⟩), .pointer (some ⟨w.heap.size, 4, none⟩)] 96)) by have := HB2.out.size; (repeat' first | with_reducible exact Below.refl _ _ | with_reducible assumption | (with_reducible refine below_drewN ?_ _) | (with_reducible refine Below.drew ?_) | (with_reducible refine Below.alloc ?_ ?_ _) | (with_reducible refine Below.setCell ?_ ?_ _) | omega | (simp; done) | (simp; omega)))) hb)
        clear hb CF2 T2
        obtain ⟨c', hc'⟩ := setK_civ ⟨d0, d1, d2, 0, 0, 0⟩ 3 (pieces t colon) k
        rw [hc'] at hR
        have HA := Lib.hid (fun w T => HAT.out c' w T)
        clear HAT hc'
        generalize atR c' o = A at *
        obtain ⟨x, ok⟩ := A
        have r0 := hR.cell 0
        have r1 := hR.cell 1
        have r2 := hR.cell 2
        have r3 := hR.cell 3
        have r4 := hR.cell 4
        have r5 := hR.cell 5
        simp only [civL, List.getElem?_cons_zero, List.getElem?_cons_succ] at r0 r1 r2 r3 r4 r5
        clear hR
        go_wp2_with fail
        refine (HA.out _ (HT.out.next HB3.out).tab).mono ?_
        rintro e w4 ⟨rfl, hb⟩
        have HB4 := Lib.hid (Below.andThen HB3.out hb)
        clear hb r0 r1 r2 r3 r4 r5
        go_wp2
        go_ret2
        exact ⟨rfl, HB4.out⟩
      · rw [hc] at hV HF2
        go_enter Tryd.func49, Tryd.ntmps49
        go_wp2_with (first | (go_at_call 70; refine Calls.mono (HO.out _) ?_; rintro e w' ⟨rfl, rfl⟩))
        refine HF1.out.mono ?_
        rintro e w2 ⟨rfl, k, hk, hR, hb⟩
        obtain rfl := hk (by trivial)
        have HB2 := Lib.hid (Below.trans HB1.out hb)
        have hR2 : Row w2 w.heap.size 57 (civL ⟨d0, d1, d2, 0, 0, 0⟩) := by rw [hd0, hd1, hd2]; exact hR
        have T2 := HT.out.next HB2.out
        have hsz : w.heap.size < w2.heap.size := by have := hb.size; simp at this; omega
        have CF2 := Lib.hid (HF2.out w2 hsz T2 hR2)
        clear hR hR2 hb HF1 HF2 hk hsz
        go_wp2_with fail
        refine CF2.out.mono ?_
        rintro e w3 ⟨rfl, k, hk, hR, hb⟩
        have HB3 := Lib.hid (Below.trans (Below.trans HB2.out (show Below w.heap.size w2 ((w2.alloc (.cells #[.int .i64 2, .int .i64 2] 3)).alloc (.cells #[.pointer (some ⟨w.heap.size, 3, none⟩), .pointer (some ⟨w.heap.size, 4, none⟩)] 96)) by have := HB2.out.size; (repeat' first | with_reducible exact Below.refl _ _ | with_reducible assumption | (with_reducible refine below_drewN ?_ _) | (with_reducible refine Below.drew ?_) | (with_reducible refine Below.alloc ?_ ?_ _) | (with_reducible refine Below.setCell ?_ ?_ _) | omega | (simp; done) | (simp; omega)))) hb)
        clear hb CF2 T2
        obtain rfl := hk (by trivial)
        obtain ⟨h0, hh0⟩ : ∃ x, x = dv t colon 0 := ⟨_, rfl⟩
        obtain ⟨h1, hh1⟩ : ∃ x, x = dv t colon 1 := ⟨_, rfl⟩
        have hR3 : Row w3 w.heap.size 57 (civL ⟨d0, d1, d2, h0, h1, 0⟩) := by rw [hh0, hh1]; exact hR
        have HA := Lib.hid (fun w T => HAT.out ⟨d0, d1, d2, h0, h1, 0⟩ w T)
        have hRC : readC s t = ⟨d0, d1, d2, h0, h1, 0⟩ := by unfold readC; rw [hd0, hd1, hd2, hh0, hh1]
        rw [hRC] at hV
        clear HAT hR hRC hd0 hd1 hd2 hh0 hh1
        have hR := hR3
        clear hR3
        generalize atR ⟨d0, d1, d2, h0, h1, 0⟩ o = A at *
        obtain ⟨x, ok⟩ := A
        cases ok
        all_goals
          simp only [true_and, if_true, Bool.false_eq_true, if_false] at hV
          subst hV
          have r0 := hR.cell 0
          have r1 := hR.cell 1
          have r2 := hR.cell 2
          have r3 := hR.cell 3
          have r4 := hR.cell 4
          have r5 := hR.cell 5
          simp only [civL, List.getElem?_cons_zero, List.getElem?_cons_succ] at r0 r1 r2 r3 r4 r5
          clear hR
          go_wp2_with fail
          refine (HA.out _ (HT.out.next HB3.out).tab).mono ?_
          rintro e w4 ⟨rfl, hb⟩
          have HB4 := Lib.hid (Below.andThen HB3.out hb)
          clear hb r0 r1 r2 r3 r4 r5
          go_wp2
          go_ret2
          exact ⟨rfl, HB4.out⟩
end Go.Proofs.YtdldokhiefeloaaDoor
