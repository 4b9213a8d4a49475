/- Helpers of the laws: pick, four. -/
import Derived.Test.YtlehjmanlccncaaGreatDoorRatGB
import Derived.Test.YtlehjmanlccncaaGreatDoorRatGD
set_option linter.unusedVariables false
set_option linter.unusedSimpArgs false
namespace Go.Proofs.YtlehjmanlccncaaGreatDoor
open Go.RowKit

def pickZ (c n : Int) : Int := (if c < 0 then -(c + 1) else c) % n
set_option maxHeartbeats 400000 in
theorem pick_r (c n : Int) (w : World) (hn : 0 < n) (hc' : -9223372036854775808 ≤ c) (hc : c ≤ 9223372036854775807) :
    Calls Tryz.prog 22 #[.int .i64 c, .int .i64 n] w fun e w' => e = .returned (.int .i64 (pickZ c n)) ∧ w = w' := by
  by_cases h : c < 0
  · have h0 : 0 ≤ -(c + 1) := by omega
    have e : (-(c + 1)).tmod n = pickZ c n := by rw [Int.tmod_eq_emod_of_nonneg h0]; simp [pickZ, h]
    have E := Lib.hid e
    clear e
    go_enter Tryz.func22, Tryz.ntmps22
    go_wp2
    go_ret
    exact ⟨retv (vint (by rw [← E.out, Int.neg_tmod])), rfl⟩
  · have h0 : 0 ≤ c := by omega
    have e : c % n = pickZ c n := by simp [pickZ, h]
    have E := Lib.hid e
    clear e
    go_enter Tryz.func22, Tryz.ntmps22
    go_wp2
    go_ret
    exact ⟨retv (vint E.out), rfl⟩
set_option maxHeartbeats 400000 in
theorem rpick_r (c n : Int) (w : World) (hn : 0 < n) (hc' : -9223372036854775808 ≤ c) (hc : c ≤ 9223372036854775807) :
    Calls Tryz.prog 46 #[.int .i64 c, .int .i64 n] w fun e w' => e = .returned (.int .i64 (pickZ c n)) ∧ w = w' := by
  by_cases h : c < 0
  · have h0 : 0 ≤ -(c + 1) := by omega
    have e : (-(c + 1)).tmod n = pickZ c n := by rw [Int.tmod_eq_emod_of_nonneg h0]; simp [pickZ, h]
    have E := Lib.hid e
    clear e
    go_enter Tryz.func46, Tryz.ntmps46
    go_wp2
    go_ret
    exact ⟨retv (vint (by rw [← E.out, Int.neg_tmod])), rfl⟩
  · have h0 : 0 ≤ c := by omega
    have e : c % n = pickZ c n := by simp [pickZ, h]
    have E := Lib.hid e
    clear e
    go_enter Tryz.func46, Tryz.ntmps46
    go_wp2
    go_ret
    exact ⟨retv (vint E.out), rfl⟩
theorem pick_in (c : Int) {n : Int} (hn : 0 < n) : 0 ≤ pickZ c n ∧ pickZ c n < n := ⟨Int.emod_nonneg _ (by omega), Int.emod_lt_of_pos _ hn⟩
theorem pick_nat (c : Int) {n : Nat} (hn : 0 < n) : ∃ k : Nat, pickZ c n = (k : Int) ∧ k < n := by
  have h := pick_in c (n := n) (by omega)
  exact ⟨(pickZ c n).toNat, by omega, by omega⟩
theorem rows6 (w : World) (t0 t1 t2 t3 t4 t5 : TypeId) (C0 C1 C2 C3 C4 C5 : List Value) (W : World)
    (e : W = (((((w.alloc (.cells C0.toArray t0)).alloc (.cells C1.toArray t1)).alloc (.cells C2.toArray t2)).alloc (.cells C3.toArray t3)).alloc (.cells C4.toArray t4)).alloc (.cells C5.toArray t5)) :
    Row W w.heap.size t0 C0 ∧ Row W (w.heap.size + 1) t1 C1 ∧ Row W (w.heap.size + 2) t2 C2 ∧ Row W (w.heap.size + 3) t3 C3 ∧ Row W (w.heap.size + 4) t4 C4 ∧ Row W (w.heap.size + 5) t5 C5 ∧ Below w.heap.size w W ∧ W.heap.size = w.heap.size + 6 := by
  subst e
  have h0 := Row.new w t0 C0
  have h1 := Row.new (w.alloc (.cells C0.toArray t0)) t1 C1
  have h2 := Row.new ((w.alloc (.cells C0.toArray t0)).alloc (.cells C1.toArray t1)) t2 C2
  have h3 := Row.new (((w.alloc (.cells C0.toArray t0)).alloc (.cells C1.toArray t1)).alloc (.cells C2.toArray t2)) t3 C3
  have h4 := Row.new ((((w.alloc (.cells C0.toArray t0)).alloc (.cells C1.toArray t1)).alloc (.cells C2.toArray t2)).alloc (.cells C3.toArray t3)) t4 C4
  have h5 := Row.new (((((w.alloc (.cells C0.toArray t0)).alloc (.cells C1.toArray t1)).alloc (.cells C2.toArray t2)).alloc (.cells C3.toArray t3)).alloc (.cells C4.toArray t4)) t5 C5
  simp only [World.size_alloc] at h1 h2 h3 h4 h5
  refine ⟨((((h0.alloc _).alloc _).alloc _).alloc _).alloc _, (((h1.alloc _).alloc _).alloc _).alloc _, ((h2.alloc _).alloc _).alloc _, (h3.alloc _).alloc _, h4.alloc _, h5, by (repeat' first | exact Below.refl _ _ | assumption | (refine below_drewN ?_ _) | (refine Below.drew ?_) | (refine Below.alloc ?_ ?_ _) | (refine Below.setCell ?_ ?_ _) | (simp; done) | (simp; omega) | omega), by simp only [World.size_alloc]⟩
abbrev z8 : List Value := [.string ⟨#[]⟩, .string ⟨#[]⟩, .string ⟨#[]⟩, .string ⟨#[]⟩, .string ⟨#[]⟩, .string ⟨#[]⟩, .string ⟨#[]⟩, .string ⟨#[]⟩]
abbrev z4 : List Value := [.int .i64 0, .int .i64 0, .int .i64 0, .int .i64 0]
set_option maxRecDepth 100000 in
set_option maxHeartbeats 8000000 in
theorem four_any (ra rb : ByteArray × ByteArray) (w : World) (T : TabI w) {p0 q0 p1 q1 p2 q2 p3 q3 : ByteArray} {e0 e1 e2 e3 : Int}
    (h0 : resV (Ra.addO (Ra.val ra) (Ra.val rb)) = .tuple #[ratV (p0, q0), .int .i64 e0]) (h1 : resV (Ra.subO (Ra.val ra) (Ra.val rb)) = .tuple #[ratV (p1, q1), .int .i64 e1])
    (h2 : resV (Ra.mulO (Ra.val ra) (Ra.val rb)) = .tuple #[ratV (p2, q2), .int .i64 e2]) (h3 : resV (Ra.divO (Ra.val ra) (Ra.val rb)) = .tuple #[ratV (p3, q3), .int .i64 e3]) :
    Calls Tryz.prog 15 #[ratV ra, ratV rb] w fun e w' =>
      e = .returned (.tuple #[.agg #[.string p0, .string q0, .string p1, .string q1, .string p2, .string q2, .string p3, .string q3], .agg #[.int .i64 e0, .int .i64 e1, .int .i64 e2, .int .i64 e3]]) ∧ Below w.heap.size w w' := by
  have C0 := Lib.hid (fun W T => Add_r ra rb W T)
  have C1 := Lib.hid (fun W T => Sub_r ra rb W T)
  have C2 := Lib.hid (fun W T => Mul_r ra rb W T)
  have C3 := Lib.hid (fun W T => Div_r ra rb W T)
  rw [h0] at C0
  rw [h1] at C1
  rw [h2] at C2
  rw [h3] at C3
  obtain ⟨a1, a2⟩ := ra
  obtain ⟨c1, c2⟩ := rb
  have HT := Lib.hid T
  clear T h0 h1 h2 h3
  go_enter Tryz.func15, Tryz.ntmps15
  go_upto_region 3 with (fail)
  refine wp_named fun w1 hw => ?_
  obtain ⟨r0, r1, r4, r5, r6, r7, hB, hz⟩ := rows6 w 23 23 31 33 31 33 [.string a1, .string a2] [.string c1, .string c2] z8 z4 z8 z4 w1 hw
  obtain ⟨b0, hb0⟩ : ∃ x, x = w.heap.size := ⟨_, rfl⟩
  obtain ⟨b1, hb1⟩ : ∃ x, x = w.heap.size + 1 := ⟨_, rfl⟩
  obtain ⟨b2, hb2⟩ : ∃ x, x = w.heap.size + 1 + 1 := ⟨_, rfl⟩
  obtain ⟨b3, hb3⟩ : ∃ x, x = w.heap.size + 1 + 1 + 1 := ⟨_, rfl⟩
  obtain ⟨b4, hb4⟩ : ∃ x, x = w.heap.size + 1 + 1 + 1 + 1 := ⟨_, rfl⟩
  obtain ⟨b5, hb5⟩ : ∃ x, x = w.heap.size + 1 + 1 + 1 + 1 + 1 := ⟨_, rfl⟩
  rw [← hb5, ← hb4, ← hb3, ← hb2, ← hb1, ← hb0]
  have A := Lib.hid (show Row w1 b0 _ _ from by rw [hb0]; exact r0)
  have B := Lib.hid (show Row w1 b1 _ _ from by rw [hb1]; exact r1)
  have Y := Lib.hid (show Row w1 b2 _ _ from by rw [hb2]; exact r4)
  have Z := Lib.hid (show Row w1 b3 _ _ from by rw [hb3]; exact r5)
  have R := Lib.hid (show Row w1 b4 _ _ from by rw [hb4]; exact r6)
  have E := Lib.hid (show Row w1 b5 _ _ from by rw [hb5]; exact r7)
  have N := Lib.hid (show (b0 ≠ b4 ∧ b0 ≠ b5 ∧ b1 ≠ b4 ∧ b1 ≠ b5) ∧ (b2 ≠ b4 ∧ b2 ≠ b5 ∧ b3 ≠ b4 ∧ b3 ≠ b5) ∧ (b4 ≠ b5 ∧ b5 ≠ b4 ∧ w.heap.size ≤ b4 ∧ w.heap.size ≤ b5 ∧ w.heap.size ≤ b2 ∧ w.heap.size ≤ b3 ∧ b2 ≠ b3 ∧ b3 ≠ b2) from by omega)
  have BB := Lib.hid hB
  have HT0 := HT
  clear HT
  have HT := Lib.hid (HT0.out.next hB)
  clear hw r0 r1 r4 r5 r6 r7 hB hz hb0 hb1 hb2 hb3 hb4 hb5
  obtain ⟨cA0, cA1⟩ := A.out.two
  have lA := A.out.lt
  obtain ⟨cB0, cB1⟩ := B.out.two
  have lB := B.out.lt
  go_wp2_with fail
  with_reducible refine Calls.mono (C0.out _ HT.out) ?_
  rintro e x0 ⟨rfl, hb⟩
  clear cA0 cA1 lA cB0 cB1 lB
  replace A := Lib.hid (A.out.next hb)
  replace B := Lib.hid (B.out.next hb)
  replace Y := Lib.hid (Y.out.next hb)
  replace Z := Lib.hid (Z.out.next hb)
  replace R := Lib.hid (R.out.next hb)
  replace E := Lib.hid (E.out.next hb)
  replace BB := Lib.hid (Below.andThen BB.out hb)
  clear hb
  have g0 := (R.out.cell 0).trans (show _ = some (Value.string ⟨#[]⟩) from rfl)
  have g1 := (R.out.cell 1).trans (show _ = some (Value.string ⟨#[]⟩) from rfl)
  have g2 := (E.out.cell 0).trans (show _ = some (Value.int .i64 0) from rfl)
  have f0 := R.out.frozen 0
  have f1 := R.out.frozen 1
  have f2 := E.out.frozen 0
  have lr := R.out.lt
  have le := E.out.lt
  have ne := N.out.2.2.2.1
  go_upto_region 4 with (fail)
  refine wp_named fun y0 hq => ?_
  replace A := Lib.hid (show Row y0 b0 _ _ from by rw [hq]; exact (((A.out.other N.out.1.1 _ _).other N.out.1.1 _ _).other N.out.1.2.1 _ _))
  replace B := Lib.hid (show Row y0 b1 _ _ from by rw [hq]; exact (((B.out.other N.out.1.2.2.1 _ _).other N.out.1.2.2.1 _ _).other N.out.1.2.2.2 _ _))
  replace Y := Lib.hid (show Row y0 b2 _ _ from by rw [hq]; exact (((Y.out.other N.out.2.1.1 _ _).other N.out.2.1.1 _ _).other N.out.2.1.2.1 _ _))
  replace Z := Lib.hid (show Row y0 b3 _ _ from by rw [hq]; exact (((Z.out.other N.out.2.1.2.2.1 _ _).other N.out.2.1.2.2.1 _ _).other N.out.2.1.2.2.2 _ _))
  replace R := Lib.hid (show Row y0 b4 _ _ from by rw [hq]; exact (((R.out.set 0 (.string p0)).set 1 (.string q0)).other N.out.2.2.1 0 _))
  replace E := Lib.hid (show Row y0 b5 _ _ from by rw [hq]; exact (((E.out.other N.out.2.2.2.1 _ _).other N.out.2.2.2.1 _ _).set 0 (.int .i64 e0)))
  replace BB := Lib.hid (show Below w.heap.size w y0 from by rw [hq]; exact ((BB.out.setCell (p := ⟨b4, 0, none⟩) N.out.2.2.2.2.1 _).setCell (p := ⟨b4, 1, none⟩) N.out.2.2.2.2.1 _).setCell (p := ⟨b5, 0, none⟩) N.out.2.2.2.2.2.1 _)
  clear HT hq g0 g1 g2 f0 f1 f2 lr le ne
  have HT := Lib.hid (HT0.out.next BB.out)
  obtain ⟨cA0, cA1⟩ := A.out.two
  have lA := A.out.lt
  obtain ⟨cB0, cB1⟩ := B.out.two
  have lB := B.out.lt
  go_wp2_with fail
  with_reducible refine Calls.mono (C1.out _ HT.out) ?_
  rintro e x1 ⟨rfl, hb⟩
  clear cA0 cA1 lA cB0 cB1 lB
  replace A := Lib.hid (A.out.next hb)
  replace B := Lib.hid (B.out.next hb)
  replace Y := Lib.hid (Y.out.next hb)
  replace Z := Lib.hid (Z.out.next hb)
  replace R := Lib.hid (R.out.next hb)
  replace E := Lib.hid (E.out.next hb)
  replace BB := Lib.hid (Below.andThen BB.out hb)
  clear hb
  have g0 := (R.out.cell 2).trans (show _ = some (Value.string ⟨#[]⟩) from rfl)
  have g1 := (R.out.cell 3).trans (show _ = some (Value.string ⟨#[]⟩) from rfl)
  have g2 := (E.out.cell 1).trans (show _ = some (Value.int .i64 0) from rfl)
  have f0 := R.out.frozen 2
  have f1 := R.out.frozen 3
  have f2 := E.out.frozen 1
  have lr := R.out.lt
  have le := E.out.lt
  have ne := N.out.2.2.2.1
  go_upto_region 5 with (fail)
  refine wp_named fun y1 hq => ?_
  replace A := Lib.hid (show Row y1 b0 _ _ from by rw [hq]; exact (((A.out.other N.out.1.1 _ _).other N.out.1.1 _ _).other N.out.1.2.1 _ _))
  replace B := Lib.hid (show Row y1 b1 _ _ from by rw [hq]; exact (((B.out.other N.out.1.2.2.1 _ _).other N.out.1.2.2.1 _ _).other N.out.1.2.2.2 _ _))
  replace Y := Lib.hid (show Row y1 b2 _ _ from by rw [hq]; exact (((Y.out.other N.out.2.1.1 _ _).other N.out.2.1.1 _ _).other N.out.2.1.2.1 _ _))
  replace Z := Lib.hid (show Row y1 b3 _ _ from by rw [hq]; exact (((Z.out.other N.out.2.1.2.2.1 _ _).other N.out.2.1.2.2.1 _ _).other N.out.2.1.2.2.2 _ _))
  replace R := Lib.hid (show Row y1 b4 _ _ from by rw [hq]; exact (((R.out.set 2 (.string p1)).set 3 (.string q1)).other N.out.2.2.1 1 _))
  replace E := Lib.hid (show Row y1 b5 _ _ from by rw [hq]; exact (((E.out.other N.out.2.2.2.1 _ _).other N.out.2.2.2.1 _ _).set 1 (.int .i64 e1)))
  replace BB := Lib.hid (show Below w.heap.size w y1 from by rw [hq]; exact ((BB.out.setCell (p := ⟨b4, 2, none⟩) N.out.2.2.2.2.1 _).setCell (p := ⟨b4, 3, none⟩) N.out.2.2.2.2.1 _).setCell (p := ⟨b5, 1, none⟩) N.out.2.2.2.2.2.1 _)
  clear HT hq g0 g1 g2 f0 f1 f2 lr le ne
  have HT := Lib.hid (HT0.out.next BB.out)
  obtain ⟨cA0, cA1⟩ := A.out.two
  have lA := A.out.lt
  obtain ⟨cB0, cB1⟩ := B.out.two
  have lB := B.out.lt
  go_wp2_with fail
  with_reducible refine Calls.mono (C2.out _ HT.out) ?_
  rintro e x2 ⟨rfl, hb⟩
  clear cA0 cA1 lA cB0 cB1 lB
  replace A := Lib.hid (A.out.next hb)
  replace B := Lib.hid (B.out.next hb)
  replace Y := Lib.hid (Y.out.next hb)
  replace Z := Lib.hid (Z.out.next hb)
  replace R := Lib.hid (R.out.next hb)
  replace E := Lib.hid (E.out.next hb)
  replace BB := Lib.hid (Below.andThen BB.out hb)
  clear hb
  have g0 := (R.out.cell 4).trans (show _ = some (Value.string ⟨#[]⟩) from rfl)
  have g1 := (R.out.cell 5).trans (show _ = some (Value.string ⟨#[]⟩) from rfl)
  have g2 := (E.out.cell 2).trans (show _ = some (Value.int .i64 0) from rfl)
  have f0 := R.out.frozen 4
  have f1 := R.out.frozen 5
  have f2 := E.out.frozen 2
  have lr := R.out.lt
  have le := E.out.lt
  have ne := N.out.2.2.2.1
  go_upto_region 6 with (fail)
  refine wp_named fun y2 hq => ?_
  replace A := Lib.hid (show Row y2 b0 _ _ from by rw [hq]; exact (((A.out.other N.out.1.1 _ _).other N.out.1.1 _ _).other N.out.1.2.1 _ _))
  replace B := Lib.hid (show Row y2 b1 _ _ from by rw [hq]; exact (((B.out.other N.out.1.2.2.1 _ _).other N.out.1.2.2.1 _ _).other N.out.1.2.2.2 _ _))
  replace Y := Lib.hid (show Row y2 b2 _ _ from by rw [hq]; exact (((Y.out.other N.out.2.1.1 _ _).other N.out.2.1.1 _ _).other N.out.2.1.2.1 _ _))
  replace Z := Lib.hid (show Row y2 b3 _ _ from by rw [hq]; exact (((Z.out.other N.out.2.1.2.2.1 _ _).other N.out.2.1.2.2.1 _ _).other N.out.2.1.2.2.2 _ _))
  replace R := Lib.hid (show Row y2 b4 _ _ from by rw [hq]; exact (((R.out.set 4 (.string p2)).set 5 (.string q2)).other N.out.2.2.1 2 _))
  replace E := Lib.hid (show Row y2 b5 _ _ from by rw [hq]; exact (((E.out.other N.out.2.2.2.1 _ _).other N.out.2.2.2.1 _ _).set 2 (.int .i64 e2)))
  replace BB := Lib.hid (show Below w.heap.size w y2 from by rw [hq]; exact ((BB.out.setCell (p := ⟨b4, 4, none⟩) N.out.2.2.2.2.1 _).setCell (p := ⟨b4, 5, none⟩) N.out.2.2.2.2.1 _).setCell (p := ⟨b5, 2, none⟩) N.out.2.2.2.2.2.1 _)
  clear HT hq g0 g1 g2 f0 f1 f2 lr le ne
  have HT := Lib.hid (HT0.out.next BB.out)
  obtain ⟨cA0, cA1⟩ := A.out.two
  have lA := A.out.lt
  obtain ⟨cB0, cB1⟩ := B.out.two
  have lB := B.out.lt
  go_wp2_with fail
  with_reducible refine Calls.mono (C3.out _ HT.out) ?_
  rintro e x3 ⟨rfl, hb⟩
  clear cA0 cA1 lA cB0 cB1 lB
  replace A := Lib.hid (A.out.next hb)
  replace B := Lib.hid (B.out.next hb)
  replace Y := Lib.hid (Y.out.next hb)
  replace Z := Lib.hid (Z.out.next hb)
  replace R := Lib.hid (R.out.next hb)
  replace E := Lib.hid (E.out.next hb)
  replace BB := Lib.hid (Below.andThen BB.out hb)
  clear hb
  have g0 := (R.out.cell 6).trans (show _ = some (Value.string ⟨#[]⟩) from rfl)
  have g1 := (R.out.cell 7).trans (show _ = some (Value.string ⟨#[]⟩) from rfl)
  have g2 := (E.out.cell 3).trans (show _ = some (Value.int .i64 0) from rfl)
  have f0 := R.out.frozen 6
  have f1 := R.out.frozen 7
  have f2 := E.out.frozen 3
  have lr := R.out.lt
  have le := E.out.lt
  have ne := N.out.2.2.2.1
  go_upto_region 7 with (fail)
  refine wp_named fun y3 hq => ?_
  replace A := Lib.hid (show Row y3 b0 _ _ from by rw [hq]; exact (((A.out.other N.out.1.1 _ _).other N.out.1.1 _ _).other N.out.1.2.1 _ _))
  replace B := Lib.hid (show Row y3 b1 _ _ from by rw [hq]; exact (((B.out.other N.out.1.2.2.1 _ _).other N.out.1.2.2.1 _ _).other N.out.1.2.2.2 _ _))
  replace Y := Lib.hid (show Row y3 b2 _ _ from by rw [hq]; exact (((Y.out.other N.out.2.1.1 _ _).other N.out.2.1.1 _ _).other N.out.2.1.2.1 _ _))
  replace Z := Lib.hid (show Row y3 b3 _ _ from by rw [hq]; exact (((Z.out.other N.out.2.1.2.2.1 _ _).other N.out.2.1.2.2.1 _ _).other N.out.2.1.2.2.2 _ _))
  replace R := Lib.hid (show Row y3 b4 _ _ from by rw [hq]; exact (((R.out.set 6 (.string p3)).set 7 (.string q3)).other N.out.2.2.1 3 _))
  replace E := Lib.hid (show Row y3 b5 _ _ from by rw [hq]; exact (((E.out.other N.out.2.2.2.1 _ _).other N.out.2.2.2.1 _ _).set 3 (.int .i64 e3)))
  replace BB := Lib.hid (show Below w.heap.size w y3 from by rw [hq]; exact ((BB.out.setCell (p := ⟨b4, 6, none⟩) N.out.2.2.2.2.1 _).setCell (p := ⟨b4, 7, none⟩) N.out.2.2.2.2.1 _).setCell (p := ⟨b5, 3, none⟩) N.out.2.2.2.2.2.1 _)
  clear HT hq g0 g1 g2 f0 f1 f2 lr le ne
  have HT := Lib.hid (HT0.out.next BB.out)
  have R' := Lib.hid (show Row y3 b4 31 [.string p0, .string q0, .string p1, .string q1, .string p2, .string q2, .string p3, .string q3] from R.out)
  have E' := Lib.hid (show Row y3 b5 33 [.int .i64 e0, .int .i64 e1, .int .i64 e2, .int .i64 e3] from E.out)
  clear R E A B C0 C1 C2 C3 HT HT0
  have g0 := R'.out.cell 0
  have fz0 := Y.out.frozen 0
  have yc0 := (Y.out.cell 0).trans (show _ = some (Value.string ⟨#[]⟩) from rfl)
  have g1 := R'.out.cell 1
  have fz1 := Y.out.frozen 1
  have yc1 := (Y.out.cell 1).trans (show _ = some (Value.string ⟨#[]⟩) from rfl)
  have g2 := R'.out.cell 2
  have fz2 := Y.out.frozen 2
  have yc2 := (Y.out.cell 2).trans (show _ = some (Value.string ⟨#[]⟩) from rfl)
  have g3 := R'.out.cell 3
  have fz3 := Y.out.frozen 3
  have yc3 := (Y.out.cell 3).trans (show _ = some (Value.string ⟨#[]⟩) from rfl)
  have g4 := R'.out.cell 4
  have fz4 := Y.out.frozen 4
  have yc4 := (Y.out.cell 4).trans (show _ = some (Value.string ⟨#[]⟩) from rfl)
  have g5 := R'.out.cell 5
  have fz5 := Y.out.frozen 5
  have yc5 := (Y.out.cell 5).trans (show _ = some (Value.string ⟨#[]⟩) from rfl)
  have g6 := R'.out.cell 6
  have fz6 := Y.out.frozen 6
  have yc6 := (Y.out.cell 6).trans (show _ = some (Value.string ⟨#[]⟩) from rfl)
  have g7 := R'.out.cell 7
  have fz7 := Y.out.frozen 7
  have yc7 := (Y.out.cell 7).trans (show _ = some (Value.string ⟨#[]⟩) from rfl)
  have h0 := E'.out.cell 0
  have fy0 := Z.out.frozen 0
  have zc0 := (Z.out.cell 0).trans (show _ = some (Value.int .i64 0) from rfl)
  have h1 := E'.out.cell 1
  have fy1 := Z.out.frozen 1
  have zc1 := (Z.out.cell 1).trans (show _ = some (Value.int .i64 0) from rfl)
  have h2 := E'.out.cell 2
  have fy2 := Z.out.frozen 2
  have zc2 := (Z.out.cell 2).trans (show _ = some (Value.int .i64 0) from rfl)
  have h3 := E'.out.cell 3
  have fy3 := Z.out.frozen 3
  have zc3 := (Z.out.cell 3).trans (show _ = some (Value.int .i64 0) from rfl)
  have l4 := R'.out.lt
  have l5 := E'.out.lt
  have l2 := Y.out.lt
  have l3 := Z.out.lt
  have n1 := N.out.2.1.1
  have n2 := N.out.2.1.2.1
  have n3 := N.out.2.1.2.2.1
  have n4 := N.out.2.1.2.2.2
  have n5 := N.out.2.2.2.2.2.2.2.2.1
  simp only [List.getElem?_cons_zero, List.getElem?_cons_succ] at g0 g1 g2 g3 g4 g5 g6 g7 h0 h1 h2 h3
  go_region
  clear g0 g1 g2 g3 g4 g5 g6 g7 h0 h1 h2 h3
  go_wp2_with fail
  refine bodyPost_ret (v := .tuple #[.agg #[.string p0, .string q0, .string p1, .string q1, .string p2, .string q2, .string p3, .string q3], .agg #[.int .i64 e0, .int .i64 e1, .int .i64 e2, .int .i64 e3]]) (by first | (simp [results, Tryz.results15, go_sem]; done) | simp [results, Tryz.results15, go_sem, *]) rfl ⟨rfl, ?_⟩
  have n8 := N.out.2.2.2.2.2.2.1
  have n9 := N.out.2.2.2.2.2.2.2.1
  have hB := BB.out
  repeat' first
    | with_reducible exact hB
    | with_reducible refine Below.setCell ?_ ?_ _
    | with_reducible refine Below.drew ?_
    | exact n8
    | exact n9
end Go.Proofs.YtlehjmanlccncaaGreatDoor
