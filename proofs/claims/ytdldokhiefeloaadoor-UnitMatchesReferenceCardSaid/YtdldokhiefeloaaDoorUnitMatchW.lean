/- UnitMatchesReference: the walk, over callees that are given in pairs. -/
import Derived.Test.YtdldokhiefeloaaDoorUnitA
import Derived.Test.YtdldokhiefeloaaDoorBytes
import Derived.Test.YtdldokhiefeloaaDoorMem
import Derived.Deep.DeepCutAuto
import Derived.Deep.RegionWith
import Derived.Deep.CutBlock
namespace Go.Proofs.YtdldokhiefeloaaDoor
open Go.RowKit


/-- A function and the reference's, both with one answer. -/
abbrev Both (f g : FuncId) (args : Array Value) (v : Value) : Prop :=
  (∀ w, Tab w → Calls Tryd.prog f args w fun r w' => r = .returned v ∧ Below w.heap.size w w') ∧ ∀ w, Calls Tryd.prog g args w fun r w' => r = .returned v ∧ Below w.heap.size w w'
abbrev Says (f : FuncId) (args : Array Value) (v : Value) : Prop := ∀ w, Calls Tryd.prog f args w fun r w' => r = .returned v ∧ Below w.heap.size w w'

theorem rows6 (w : World) (t0 t1 t2 t3 t4 t5 : TypeId) (C0 C1 C2 C3 C4 C5 : List Value) (W : World)
    (e : W = (((((w.alloc (.cells C0.toArray t0)).alloc (.cells C1.toArray t1)).alloc (.cells C2.toArray t2)).alloc (.cells C3.toArray t3)).alloc (.cells C4.toArray t4)).alloc (.cells C5.toArray t5)) :
    Row W w.heap.size t0 C0 ∧ Row W (w.heap.size + 1) t1 C1 ∧ Row W (w.heap.size + 2) t2 C2 ∧ Row W (w.heap.size + 3) t3 C3 ∧ Row W (w.heap.size + 4) t4 C4 ∧ Row W (w.heap.size + 5) t5 C5 ∧ Below w.heap.size w W ∧ W.heap.size = w.heap.size + 6 := by
  subst e
  have h0 := Row.new w t0 C0
  have h1 := Row.new (w.alloc (.cells C0.toArray t0)) t1 C1
  have h2 := Row.new ((w.alloc (.cells C0.toArray t0)).alloc (.cells C1.toArray t1)) t2 C2
  have h3 := Row.new (((w.alloc (.cells C0.toArray t0)).alloc (.cells C1.toArray t1)).alloc (.cells C2.toArray t2)) t3 C3
  have h4 := Row.new ((((w.alloc (.cells C0.toArray t0)).alloc (.cells C1.toArray t1)).alloc (.cells C2.toArray t2)).alloc (.cells C3.toArray t3)) t4 C4
  have h5 := Row.new (((((w.alloc (.cells C0.toArray t0)).alloc (.cells C1.toArray t1)).alloc (.cells C2.toArray t2)).alloc (.cells C3.toArray t3)).alloc (.cells C4.toArray t4)) t5 C5
  simp only [World.size_alloc] at h1 h2 h3 h4 h5
  refine ⟨((((h0.alloc _).alloc _).alloc _).alloc _).alloc _, (((h1.alloc _).alloc _).alloc _).alloc _, ((h2.alloc _).alloc _).alloc _, (h3.alloc _).alloc _, h4.alloc _, h5, by (repeat' first | exact Below.refl _ _ | assumption | (refine below_drewN ?_ _) | (refine Below.drew ?_) | (refine Below.alloc ?_ ?_ _) | (refine Below.setCell ?_ ?_ _) | (simp; done) | (simp; omega) | omega), by simp only [World.size_alloc]⟩
theorem Row.three {w : World} {b : Nat} {t : TypeId} {v0 v1 v2 : Value} (h : Row w b t [v0, v1, v2]) : w.cell? ⟨b, 0, none⟩ = some v0 ∧ w.cell? ⟨b, 1, none⟩ = some v1 ∧ w.cell? ⟨b, 2, none⟩ = some v2 := ⟨h.cell 0, h.cell 1, h.cell 2⟩
theorem Row.two {w : World} {b : Nat} {t : TypeId} {v0 v1 : Value} (h : Row w b t [v0, v1]) : w.cell? ⟨b, 0, none⟩ = some v0 ∧ w.cell? ⟨b, 1, none⟩ = some v1 := ⟨h.cell 0, h.cell 1⟩

set_option maxRecDepth 100000 in
set_option maxHeartbeats 40000000 in
theorem match_walk (a0 a1 a2 b0 b1 b2 x0 x1 x2 y0 y1 y2 r0 r1 z0 z1 to_ sz nn dd m0 m1 m2 n0 n1 n2 s0 s1 u7 st p8 p9 : Int) (w : World) (T : Tab w)
    (SN : ∀ w, Tab w → Calls Tryd.prog 15 #[] w fun r w' => r = .returned (.bool true) ∧ Below w.heap.size w w')
    (MX : Says 16 #[(Value.agg #[Value.int .i64 (x0), Value.int .i64 (x1), Value.int .i64 (x2)])] (Value.agg #[Value.int .i64 (m0), Value.int .i64 (m1), Value.int .i64 (m2)])) (MY : Says 16 #[(Value.agg #[Value.int .i64 (y0), Value.int .i64 (y1), Value.int .i64 (y2)])] (Value.agg #[Value.int .i64 (n0), Value.int .i64 (n1), Value.int .i64 (n2)])) (MR : Says 23 #[(Value.agg #[Value.int .i64 (z0), Value.int .i64 (z1)])] (Value.agg #[Value.int .i64 (s0), Value.int .i64 (s1)]))
    (PU : Says 24 #[(Value.int .i64 (to_)), (Value.int .i64 (7))] (Value.int .i64 (u7))) (hu7 : 0 ≤ u7 ∧ u7 ≤ 6) (ST : Says 31 #[(Value.int .i64 (sz))] (Value.int .i64 (st))) (PN : Says 24 #[(Value.int .i64 (nn)), (Value.int .i64 (1000))] (Value.int .i64 (p8))) (PD : Says 24 #[(Value.int .i64 (dd)), (Value.int .i64 (1000))] (Value.int .i64 (p9))) (hp9 : 0 ≤ p9 ∧ p9 ≤ 999)
    (AD : ∀ p0 p1 p2 q0 q1 q2, ∃ c0 c1 c2 e, Both 17 18 #[(Value.agg #[Value.int .i64 (p0), Value.int .i64 (p1), Value.int .i64 (p2)]), (Value.agg #[Value.int .i64 (q0), Value.int .i64 (q1), Value.int .i64 (q2)])] (.tuple #[(Value.agg #[Value.int .i64 (c0), Value.int .i64 (c1), Value.int .i64 (c2)]), (Value.int .i64 (e))]))
    (ME : ∀ p0 p1 p2 q0 q1 q2, ∃ c0 c1 c2 e, Both 19 20 #[(Value.agg #[Value.int .i64 (p0), Value.int .i64 (p1), Value.int .i64 (p2)]), (Value.agg #[Value.int .i64 (q0), Value.int .i64 (q1), Value.int .i64 (q2)])] (.tuple #[(Value.agg #[Value.int .i64 (c0), Value.int .i64 (c1), Value.int .i64 (c2)]), (Value.int .i64 (e))]))
    (CO : ∀ p0 p1 p2 q0 q1 q2, ∃ b, Both 21 22 #[(Value.agg #[Value.int .i64 (p0), Value.int .i64 (p1), Value.int .i64 (p2)]), (Value.agg #[Value.int .i64 (q0), Value.int .i64 (q1), Value.int .i64 (q2)])] (.bool b))
    (CV : ∀ p0 p1 p2 u q0 q1, ∃ c0 c1 c2 e, Both 25 26 #[(Value.agg #[Value.int .i64 (p0), Value.int .i64 (p1), Value.int .i64 (p2)]), (Value.int .i64 (u)), (Value.agg #[Value.int .i64 (q0), Value.int .i64 (q1)])] (.tuple #[(Value.agg #[Value.int .i64 (c0), Value.int .i64 (c1), Value.int .i64 (c2)]), (Value.int .i64 (e))]))
    (RT : ∀ q0 q1, ∃ b, Both 27 28 #[(Value.agg #[Value.int .i64 (q0), Value.int .i64 (q1)])] (.bool b))
    (KD : ∀ u, ∃ k : Int, Both 29 30 #[(Value.int .i64 (u))] (Value.int .i64 (k)))
    (CS : ∀ p0 p1 p2 u, ∃ c0 c1 c2 e, Both 32 33 #[(Value.agg #[Value.int .i64 (p0), Value.int .i64 (p1), Value.int .i64 (p2)]), (Value.int .i64 (u))] (.tuple #[(Value.agg #[Value.int .i64 (c0), Value.int .i64 (c1), Value.int .i64 (c2)]), (Value.int .i64 (e))]))
    (SH : ∀ p0 p1 p2 u v, ∃ c0 c1 c2 e, Both 34 35 #[(Value.agg #[Value.int .i64 (p0), Value.int .i64 (p1), Value.int .i64 (p2)]), (Value.int .i64 (u)), (Value.int .i64 (v))] (.tuple #[(Value.agg #[Value.int .i64 (c0), Value.int .i64 (c1), Value.int .i64 (c2)]), (Value.int .i64 (e))]))
    (VA : ∀ p0 p1 p2, ∃ b, Both 36 37 #[(Value.agg #[Value.int .i64 (p0), Value.int .i64 (p1), Value.int .i64 (p2)])] (.bool b)) :
    Calls Tryd.prog 3 #[(Value.agg #[Value.int .i64 (a0), Value.int .i64 (a1), Value.int .i64 (a2)]), (Value.agg #[Value.int .i64 (b0), Value.int .i64 (b1), Value.int .i64 (b2)]), (Value.agg #[Value.int .i64 (x0), Value.int .i64 (x1), Value.int .i64 (x2)]), (Value.agg #[Value.int .i64 (y0), Value.int .i64 (y1), Value.int .i64 (y2)]), (Value.agg #[Value.int .i64 (r0), Value.int .i64 (r1)]), (Value.agg #[Value.int .i64 (z0), Value.int .i64 (z1)]), (Value.int .i64 (to_)), (Value.int .i64 (sz)), (Value.int .i64 (nn)), (Value.int .i64 (dd))] w fun r w' => r = .returned (.bool true) ∧ Below w.heap.size w w' := by
  replace SN := Lib.hid SN
  replace MX := Lib.hid MX
  replace MY := Lib.hid MY
  replace MR := Lib.hid MR
  replace PU := Lib.hid PU
  replace ST := Lib.hid ST
  replace PN := Lib.hid PN
  replace PD := Lib.hid PD
  replace AD := Lib.hid AD
  replace ME := Lib.hid ME
  replace CO := Lib.hid CO
  replace CV := Lib.hid CV
  replace RT := Lib.hid RT
  replace KD := Lib.hid KD
  replace CS := Lib.hid CS
  replace SH := Lib.hid SH
  replace VA := Lib.hid VA
  replace T := Lib.hid T
  replace hu7 := Lib.hid hu7
  replace hp9 := Lib.hid hp9
  obtain ⟨W0, eW⟩ : ∃ W0, W0 = (((((w.alloc (.cells [(Value.int .i64 (a0)), (Value.int .i64 (a1)), (Value.int .i64 (a2))].toArray 23)).alloc (.cells [(Value.int .i64 (b0)), (Value.int .i64 (b1)), (Value.int .i64 (b2))].toArray 23)).alloc (.cells [(Value.int .i64 (x0)), (Value.int .i64 (x1)), (Value.int .i64 (x2))].toArray 24)).alloc (.cells [(Value.int .i64 (y0)), (Value.int .i64 (y1)), (Value.int .i64 (y2))].toArray 24)).alloc (.cells [(Value.int .i64 (r0)), (Value.int .i64 (r1))].toArray 26)).alloc (.cells [(Value.int .i64 (z0)), (Value.int .i64 (z1))].toArray 27) := ⟨_, rfl⟩
  obtain ⟨RA, RB, RX, RY, RR, RZ, B0, hz0⟩ := rows6 w _ _ _ _ _ _ _ _ _ _ _ _ W0 eW
  replace RA := Lib.hid RA
  replace RB := Lib.hid RB
  replace RX := Lib.hid RX
  replace RY := Lib.hid RY
  replace RR := Lib.hid RR
  replace RZ := Lib.hid RZ
  replace B0 := Lib.hid B0
  go_enter Tryd.func3, Tryd.ntmps3
  go_upto_region 1 with (fail)
  simp only [List.toArray] at eW
  rw [← eW]
  clear eW
  go_wp2_with fail
  refine (SN.out _ (T.out.next B0.out)).mono ?_
  rintro e W1 ⟨rfl, hb⟩
  replace RA := Lib.hid (RA.out.next hb)
  replace RB := Lib.hid (RB.out.next hb)
  replace RX := Lib.hid (RX.out.next hb)
  replace RY := Lib.hid (RY.out.next hb)
  replace RR := Lib.hid (RR.out.next hb)
  replace RZ := Lib.hid (RZ.out.next hb)
  replace B0 := Lib.hid (Below.andThen B0.out hb)
  have hz : w.heap.size + 6 ≤ W1.heap.size := by rw [← hz0]; exact hb.size
  clear hb hz0
  obtain ⟨ca0, ca1, ca2⟩ := RA.out.three
  obtain ⟨cx0, cx1, cx2⟩ := RX.out.three
  go_wp2_with fail
  go_cut [60, 61, 62] (fun v l i wx => ∃ s, v = .slice (some ⟨s, 0, none⟩) 2 2 ∧ l = (Value.int .i64 (2)) ∧ i = (Value.int .i64 (0)) ∧ Row wx s 23 [(Value.int .i64 (a0)), (Value.int .i64 (a1)), (Value.int .i64 (a2)), (Value.int .i64 (m0)), (Value.int .i64 (m1)), (Value.int .i64 (m2))] ∧ Below W1.heap.size W1 wx)
  case first =>
    first | (go_region_with (go_at_call 16; with_reducible refine Calls.mono (MX.out _) ?_; rintro e w9 ⟨rfl, hb9⟩; obtain ⟨d0, d1, d2⟩ := (RA.out.drew.next hb9).three)) | fail
    all_goals
      go_wp2_with fail
      go_meet
      exact ⟨_, rfl, rfl, rfl, Row.new _ _ _, Below.alloc (Below.drew (Below.refl _ _) |>.trans hb9) hb9.size _⟩
  obtain ⟨S1, rfl, rfl, rfl, hS1, hb⟩ := hcut
  rename World => W2
  replace RB := Lib.hid (RB.out.next hb)
  replace RY := Lib.hid (RY.out.next hb)
  replace RR := Lib.hid (RR.out.next hb)
  replace RZ := Lib.hid (RZ.out.next hb)
  replace B0 := Lib.hid (Below.andThen B0.out hb)
  have RS := Lib.hid hS1
  clear RA RX hb hS1 ca0 ca1 ca2 cx0 cx1 cx2 hz
  go_wp2_with fail
  go_loopw [62] (fun i wr => ∃ k : Nat, k ≤ 2 ∧ i = (Value.int .i64 (k)) ∧ Below W2.heap.size W2 wr) (fun i _ => 2 - (intOf i).toNat)
  case atStart => exact ⟨0, by omega, rfl, Below.refl _ _⟩
  case round =>
    obtain ⟨k, hk, rfl, hB⟩ := hrel
    have BZ := Lib.hid (Below.andThen B0.out hB)
    have HB := Lib.hid hB
    replace RB := Lib.hid (RB.out.next hB)
    replace RY := Lib.hid (RY.out.next hB)
    replace RR := Lib.hid (RR.out.next hB)
    replace RZ := Lib.hid (RZ.out.next hB)
    replace RS := Lib.hid (RS.out.next hB)
    clear hB
    by_cases hlt : k < 2
    · obtain ⟨p0, p1, p2, e0, e1, e2⟩ : ∃ p0 p1 p2 : Int, wr.cell? ⟨S1, k * 3, none⟩ = some (Value.int .i64 (p0)) ∧ wr.cell? ⟨S1, k * 3 + 1, none⟩ = some (Value.int .i64 (p1)) ∧ wr.cell? ⟨S1, k * 3 + 2, none⟩ = some (Value.int .i64 (p2)) := by
        rcases (show k = 0 ∨ k = 1 by omega) with rfl | rfl
        · exact ⟨a0, a1, a2, RS.out.cell 0, RS.out.cell 1, RS.out.cell 2⟩
        · exact ⟨m0, m1, m2, RS.out.cell 3, RS.out.cell 4, RS.out.cell 5⟩
      have hS := RS.out.lt
      go_wp2_with fail
      refine wp_named fun W3 hw => ?_
      have hb : Below wr.heap.size wr W3 := by rw [hw]; (repeat' first | exact Below.refl _ _ | assumption | (refine below_drewN ?_ _) | (refine Below.drew ?_) | (refine Below.alloc ?_ ?_ _) | (refine Below.setCell ?_ ?_ _) | (simp; done) | (simp; omega) | omega)
      replace RB := Lib.hid (RB.out.next hb)
      replace RY := Lib.hid (RY.out.next hb)
      replace RR := Lib.hid (RR.out.next hb)
      replace RZ := Lib.hid (RZ.out.next hb)
      replace RS := Lib.hid (RS.out.next hb)
      have RP := Lib.hid (show Row W3 wr.heap.size 23 [(Value.int .i64 (p0)), (Value.int .i64 (p1)), (Value.int .i64 (p2))] by rw [hw]; exact Row.new _ _ _)
      replace BZ := Lib.hid (Below.andThen BZ.out hb)
      replace HB := Lib.hid (Below.andThen HB.out hb)
      obtain ⟨bP, eb⟩ : ∃ b, b = wr.heap.size := ⟨_, rfl⟩
      rw [← eb] at RP ⊢
      clear eb hw hb e0 e1 e2 hS
      obtain ⟨cRB0, cRB1, cRB2⟩ := RB.out.three
      obtain ⟨cRY0, cRY1, cRY2⟩ := RY.out.three
      go_cut [69, 70, 71] (fun v l i wx => ∃ s, v = .slice (some ⟨s, 0, none⟩) 2 2 ∧ l = (Value.int .i64 (2)) ∧ i = (Value.int .i64 (0)) ∧ Row wx s 23 [(Value.int .i64 (b0)), (Value.int .i64 (b1)), (Value.int .i64 (b2)), (Value.int .i64 (n0)), (Value.int .i64 (n1)), (Value.int .i64 (n2))] ∧ Below W3.heap.size W3 wx)
      case first =>
        first | (go_region_with (go_at_call 16; with_reducible refine Calls.mono (MY.out _) ?_; rintro e w9 ⟨rfl, hb9⟩; obtain ⟨d0, d1, d2⟩ := (RB.out.drew.next hb9).three)) | fail
        all_goals
          go_wp2_with fail
          go_meet
          exact ⟨_, rfl, rfl, rfl, Row.new _ _ _, Below.alloc (Below.drew (Below.refl _ _) |>.trans hb9) hb9.size _⟩
      obtain ⟨S2, rfl, rfl, rfl, hS2, hb⟩ := hcut
      rename World => W4
      replace RB := Lib.hid (RB.out.next hb)
      replace RY := Lib.hid (RY.out.next hb)
      replace RR := Lib.hid (RR.out.next hb)
      replace RZ := Lib.hid (RZ.out.next hb)
      replace RS := Lib.hid (RS.out.next hb)
      replace RP := Lib.hid (RP.out.next hb)
      have RT := Lib.hid hS2
      replace BZ := Lib.hid (Below.andThen BZ.out hb)
      replace HB := Lib.hid (Below.andThen HB.out hb)
      have FP : Has3 W4 bP (Value.int .i64 (p0)) (Value.int .i64 (p1)) (Value.int .i64 (p2)) := ⟨RP.out.lt, RP.out.three⟩
      have HT4 := Lib.hid (T.out.next BZ.out)
      clear hb hS2 cRB0 cRB1 cRB2 cRY0 cRY1 cRY2 RP
      as_aux_lemma =>
        go_upto_block 2 with fail
        go_cut [20, 27, 29, 31, 33] (fun _ _ _ _ _ wx => Below W4.heap.size W4 wx)
        case first => as_aux_lemma =>
            go_wp2_with fail
            go_loopw [71] (fun i wr => ∃ k : Nat, k ≤ 2 ∧ i = (Value.int .i64 (k)) ∧ Below W4.heap.size W4 wr) (fun i _ => 2 - (intOf i).toNat)
            case atStart => exact ⟨0, by omega, rfl, Below.refl _ _⟩
            case round =>
              obtain ⟨k2, hk2, rfl, hB⟩ := hrel
              have BB := Lib.hid hB
              have HT := Lib.hid (HT4.out.next hB)
              replace RT := Lib.hid (RT.out.next hB)
              replace FP := has3 FP hB
              clear hB
              by_cases hlt2 : k2 < 2
              · obtain ⟨q0, q1, q2, e0, e1, e2⟩ : ∃ q0 q1 q2 : Int, wr.cell? ⟨S2, k2 * 3, none⟩ = some (Value.int .i64 (q0)) ∧ wr.cell? ⟨S2, k2 * 3 + 1, none⟩ = some (Value.int .i64 (q1)) ∧ wr.cell? ⟨S2, k2 * 3 + 2, none⟩ = some (Value.int .i64 (q2)) := by
                  rcases (show k2 = 0 ∨ k2 = 1 by omega) with rfl | rfl
                  · exact ⟨b0, b1, b2, RT.out.cell 0, RT.out.cell 1, RT.out.cell 2⟩
                  · exact ⟨n0, n1, n2, RT.out.cell 3, RT.out.cell 4, RT.out.cell 5⟩
                have hS := RT.out.lt
                obtain ⟨g0, g1, g2, ge, hA⟩ := AD.out p0 p1 p2 q0 q1 q2
                obtain ⟨j0, j1, j2, je, hM⟩ := ME.out p0 p1 p2 q0 q1 q2
                obtain ⟨bc, hC⟩ := CO.out p0 p1 p2 q0 q1 q2
                have GA := Lib.hid hA
                have GM := Lib.hid hM
                have GC := Lib.hid hC
                have nbc : (bc != bc) = false := bne_self_eq_false _
                clear hA hM hC
                go_wp2_with fail
                clear e0 e1 e2 hS RT
                refine (GA.out.1 _ (HT.out.next (by (repeat' first | with_reducible exact Below.refl _ _ | with_reducible assumption | (with_reducible refine below_drewN ?_ _) | (with_reducible refine Below.drew ?_) | (with_reducible refine Below.alloc ?_ ?_ _) | (with_reducible refine Below.setCell ?_ ?_ _) | omega | (simp; done) | (simp; omega))))).mono ?_
                rintro e v1 ⟨rfl, hb⟩
                have HB := Lib.hid hb
                have hW : Below wr.heap.size wr v1 := by (repeat' first | exact Below.refl _ _ | assumption | (refine Below.andThen ?_ HB.out) | (exact HB.out.size) | (refine below_drewN ?_ _) | (refine Below.drew ?_) | (refine Below.alloc ?_ ?_ _) | (refine Below.setCell ?_ ?_ _) | (simp; done) | (simp; omega) | omega)
                replace FP := has3 FP hW
                have FQ : Has3 v1 (wr.heap.size) ((Value.int .i64 (q0))) ((Value.int .i64 (q1))) ((Value.int .i64 (q2))) := has3 ⟨(by first | (simp; done) | (simp; omega)), by go_simp, by go_simp, by go_simp⟩ hb
                replace BB := Lib.hid (Below.andThen BB.out hW)
                replace HT := Lib.hid (HT.out.next hW)
                clear hb hW HB
                go_wp2_with fail
                refine (GA.out.2 _).mono ?_
                rintro e v2 ⟨rfl, hb⟩
                have HB := Lib.hid hb
                have hW : Below v1.heap.size v1 v2 := by (repeat' first | exact Below.refl _ _ | assumption | (refine Below.andThen ?_ HB.out) | (exact HB.out.size) | (refine below_drewN ?_ _) | (refine Below.drew ?_) | (refine Below.alloc ?_ ?_ _) | (refine Below.setCell ?_ ?_ _) | (simp; done) | (simp; omega) | omega)
                replace FP := has3 FP hW
                replace FQ := has3 FQ hW
                have F1 : Has3 v2 (v1.heap.size) ((Value.int .i64 (g0))) ((Value.int .i64 (g1))) ((Value.int .i64 (g2))) := has3 ⟨(by first | (simp; done) | (simp; omega)), by go_simp, by go_simp, by go_simp⟩ hb
                replace BB := Lib.hid (Below.andThen BB.out hW)
                replace HT := Lib.hid (HT.out.next hW)
                clear hb hW HB
                go_wp2_with fail
                refine (GM.out.1 _ (HT.out.next (by (repeat' first | with_reducible exact Below.refl _ _ | with_reducible assumption | (with_reducible refine below_drewN ?_ _) | (with_reducible refine Below.drew ?_) | (with_reducible refine Below.alloc ?_ ?_ _) | (with_reducible refine Below.setCell ?_ ?_ _) | omega | (simp; done) | (simp; omega))))).mono ?_
                rintro e v3 ⟨rfl, hb⟩
                have HB := Lib.hid hb
                have hW : Below v2.heap.size v2 v3 := by (repeat' first | exact Below.refl _ _ | assumption | (refine Below.andThen ?_ HB.out) | (exact HB.out.size) | (refine below_drewN ?_ _) | (refine Below.drew ?_) | (refine Below.alloc ?_ ?_ _) | (refine Below.setCell ?_ ?_ _) | (simp; done) | (simp; omega) | omega)
                replace FP := has3 FP hW
                replace FQ := has3 FQ hW
                replace F1 := has3 F1 hW
                have F2 : Has3 v3 (v2.heap.size) ((Value.int .i64 (g0))) ((Value.int .i64 (g1))) ((Value.int .i64 (g2))) := has3 ⟨(by first | (simp; done) | (simp; omega)), by go_simp, by go_simp, by go_simp⟩ hb
                replace BB := Lib.hid (Below.andThen BB.out hW)
                replace HT := Lib.hid (HT.out.next hW)
                clear hb hW HB
                go_wp2_with fail
                refine (GM.out.2 _).mono ?_
                rintro e v4 ⟨rfl, hb⟩
                have HB := Lib.hid hb
                have hW : Below v3.heap.size v3 v4 := by (repeat' first | exact Below.refl _ _ | assumption | (refine Below.andThen ?_ HB.out) | (exact HB.out.size) | (refine below_drewN ?_ _) | (refine Below.drew ?_) | (refine Below.alloc ?_ ?_ _) | (refine Below.setCell ?_ ?_ _) | (simp; done) | (simp; omega) | omega)
                replace FP := has3 FP hW
                replace FQ := has3 FQ hW
                replace F1 := has3 F1 hW
                replace F2 := has3 F2 hW
                have F3 : Has3 v4 (v3.heap.size) ((Value.int .i64 (j0))) ((Value.int .i64 (j1))) ((Value.int .i64 (j2))) := has3 ⟨(by first | (simp; done) | (simp; omega)), by go_simp, by go_simp, by go_simp⟩ hb
                replace BB := Lib.hid (Below.andThen BB.out hW)
                replace HT := Lib.hid (HT.out.next hW)
                clear hb hW HB
                go_wp2_with fail
                have HTr := Lib.hid (HT.out.next (show Below v4.heap.size v4 (v4.alloc (.cells #[(Value.int .i64 (j0)), (Value.int .i64 (j1)), (Value.int .i64 (j2))] 23)) by (repeat' first | with_reducible exact Below.refl _ _ | with_reducible assumption | (with_reducible refine below_drewN ?_ _) | (with_reducible refine Below.drew ?_) | (with_reducible refine Below.alloc ?_ ?_ _) | (with_reducible refine Below.setCell ?_ ?_ _) | omega | (simp; done) | (simp; omega))))
                have l0 : bP < v4.heap.size + 1 := by omega
                have l1 : wr.heap.size < v4.heap.size + 1 := by omega
                have l2 : v1.heap.size < v4.heap.size + 1 := by omega
                have l3 : v2.heap.size < v4.heap.size + 1 := by omega
                have l4 : v3.heap.size < v4.heap.size + 1 := by omega
                refine wp_region_kin (by kernel_rfl) (by kernel_rfl) (v4.heap.size) 1 (by first | assumption | (simp; done) | (simp; omega) | omega | (have := HS.out; omega)) (fun hk => ?_)
                repeat (go_big_quiet_step (first | (go_at_call 21; exact Calls.kin (GC.out.1 _ (HTr.out.next (Kin.below _)))) | (go_at_call 22; exact Calls.kin (GC.out.2 _))))
                refine wpQuiet_nil ?_
                clear hk
                intro v5 hb
                have HB := Lib.hid hb
                have hW : Below v4.heap.size v4 v5 := by (repeat' first | exact Below.refl _ _ | assumption | (refine Below.andThen ?_ HB.out) | (exact HB.out.size) | (refine below_drewN ?_ _) | (refine Below.drew ?_) | (refine Below.alloc ?_ ?_ _) | (refine Below.setCell ?_ ?_ _) | (simp; done) | (simp; omega) | omega)
                replace BB := Lib.hid (Below.andThen BB.out hW)
                replace HT := Lib.hid (HT.out.next hW)
                clear hb hW HB
                go_wp2_with fail
                go_roundw
                case rel => exact ⟨k2 + 1, by omega, by go_num, BB.out⟩
                case measure => simp [intOf]; omega
              · obtain rfl : k2 = 2 := by omega
                go_wp2_with fail
                go_meet
                exact BB.out
        rename World => W5
        have hb := hcut
        replace RB := Lib.hid (RB.out.next hb)
        replace RY := Lib.hid (RY.out.next hb)
        replace RR := Lib.hid (RR.out.next hb)
        replace RZ := Lib.hid (RZ.out.next hb)
        replace RS := Lib.hid (RS.out.next hb)
        replace FP := has3 FP hb
        replace BZ := Lib.hid (Below.andThen BZ.out hb)
        replace HB := Lib.hid (Below.andThen HB.out hb)
        clear hb hcut RT HT4
        as_aux_lemma =>
          obtain ⟨cRR0, cRR1⟩ := RR.out.two
          obtain ⟨cRZ0, cRZ1⟩ := RZ.out.two
          go_wp2_with fail
          go_cut [130, 131, 132] (fun v l i wx => ∃ s, v = .slice (some ⟨s, 0, none⟩) 2 2 ∧ l = (Value.int .i64 (2)) ∧ i = (Value.int .i64 (0)) ∧ Row wx s 26 [(Value.int .i64 (r0)), (Value.int .i64 (r1)), (Value.int .i64 (s0)), (Value.int .i64 (s1))] ∧ Below W5.heap.size W5 wx)
          case first =>
            first | (go_region_with (go_at_call 23; with_reducible refine Calls.mono (MR.out _) ?_; rintro e w9 ⟨rfl, hb9⟩; obtain ⟨d0, d1⟩ := (RR.out.drew.next hb9).two)) | fail
            all_goals
              go_wp2_with fail
              go_meet
              exact ⟨_, rfl, rfl, rfl, Row.new _ _ _, Below.alloc (Below.drew (Below.refl _ _) |>.trans hb9) hb9.size _⟩
          obtain ⟨S3, rfl, rfl, rfl, hS3, hb⟩ := hcut
          rename World => W6
          replace RB := Lib.hid (RB.out.next hb)
          replace RY := Lib.hid (RY.out.next hb)
          replace RR := Lib.hid (RR.out.next hb)
          replace RZ := Lib.hid (RZ.out.next hb)
          replace RS := Lib.hid (RS.out.next hb)
          replace FP := has3 FP hb
          have RT3 := Lib.hid hS3
          replace BZ := Lib.hid (Below.andThen BZ.out hb)
          replace HB := Lib.hid (Below.andThen HB.out hb)
          have HT6 := Lib.hid (T.out.next BZ.out)
          clear hb hS3 cRR0 cRR1 cRZ0 cRZ1
          as_aux_lemma =>
            go_upto_block 4 with fail
            go_cut [20, 37, 39, 41] (fun _ _ _ _ wx => Below W6.heap.size W6 wx)
            case first => as_aux_lemma =>
                go_wp2_with fail
                go_loopw [132] (fun i wr => ∃ k : Nat, k ≤ 2 ∧ i = (Value.int .i64 (k)) ∧ Below W6.heap.size W6 wr) (fun i _ => 2 - (intOf i).toNat)
                case atStart => exact ⟨0, by omega, rfl, Below.refl _ _⟩
                case round =>
                  obtain ⟨k2, hk2, rfl, hB⟩ := hrel
                  have B3 := Lib.hid hB
                  have HT3 := Lib.hid (HT6.out.next hB)
                  replace RT3 := Lib.hid (RT3.out.next hB)
                  replace FP := has3 FP hB
                  clear hB
                  by_cases hlt2 : k2 < 2
                  · obtain ⟨z0', z1', e0, e1⟩ : ∃ u v : Int, wr.cell? ⟨S3, k2 * 2, none⟩ = some (Value.int .i64 (u)) ∧ wr.cell? ⟨S3, k2 * 2 + 1, none⟩ = some (Value.int .i64 (v)) := by
                      rcases (show k2 = 0 ∨ k2 = 1 by omega) with rfl | rfl
                      · exact ⟨r0, r1, RT3.out.cell 0, RT3.out.cell 1⟩
                      · exact ⟨s0, s1, RT3.out.cell 2, RT3.out.cell 3⟩
                    have hS := RT3.out.lt
                    have kb : decide ((k2 : Int) < 2) = true := by rw [decide_eq_true_eq]; omega
                    obtain ⟨hu0, hu1⟩ := hu7.out
                    go_wp2_with fail
                    refine (PU.out _).mono ?_
                    rintro e x2 ⟨rfl, hb⟩
                    have HB := Lib.hid hb
                    have hW : Below wr.heap.size wr x2 := by (repeat' first | with_reducible exact Below.refl _ _ | with_reducible assumption | (with_reducible refine below_drewN ?_ _) | (with_reducible refine Below.drew ?_) | (with_reducible refine Below.alloc ?_ ?_ _) | (with_reducible refine Below.setCell ?_ ?_ _) | (with_reducible refine Below.andThen ?_ HB.out) | (with_reducible exact HB.out.size) | omega | (simp; done) | (simp; omega))
                    have FS : Has2 x2 wr.heap.size (Value.int .i64 (z0')) (Value.int .i64 (z1')) := has2 ⟨(by first | (simp; done) | (simp; omega)), by go_simp, by go_simp⟩ hb
                    replace FP := has3 FP hW
                    replace B3 := Lib.hid (Below.andThen B3.out hW)
                    replace HT3 := Lib.hid (HT3.out.next hW)
                    obtain ⟨bS, eb⟩ : ∃ b, b = wr.heap.size := ⟨_, rfl⟩
                    rw [← eb] at FS ⊢
                    clear eb hb hW HB e0 e1 hS RT3
                    go_upto_block 6 with fail
                    refine wp_named fun x3 hw => ?_
                    have hb : Below x2.heap.size x2 x3 := by rw [hw]; (repeat' first | with_reducible exact Below.refl _ _ | with_reducible assumption | (with_reducible refine below_drewN ?_ _) | (with_reducible refine Below.drew ?_) | (with_reducible refine Below.alloc ?_ ?_ _) | (with_reducible refine Below.setCell ?_ ?_ _) | omega | (simp; done) | (simp; omega))
                    have RU := Lib.hid (show Row x3 x2.heap.size 3 [(Value.int .i64 (to_)), (Value.int .i64 (1 + u7))] by rw [hw]; exact Row.new _ _ _)
                    replace FP := has3 FP hb
                    replace FS := has2 FS hb
                    replace B3 := Lib.hid (Below.andThen B3.out hb)
                    replace HT3 := Lib.hid (HT3.out.next hb)
                    obtain ⟨S4, eb⟩ : ∃ b, b = x2.heap.size := ⟨_, rfl⟩
                    rw [← eb] at RU ⊢
                    clear eb hw hb
                    go_wp2_with fail
                    go_loopw [142] (fun i wr => ∃ k : Nat, k ≤ 2 ∧ i = (Value.int .i64 (k)) ∧ Below x3.heap.size x3 wr) (fun i _ => 2 - (intOf i).toNat)
                    case atStart => exact ⟨0, by omega, rfl, Below.refl _ _⟩
                    case round =>
                      obtain ⟨k4, hk4, rfl, hB⟩ := hrel
                      rename World => y
                      have BB := Lib.hid hB
                      have HT := Lib.hid (HT3.out.next hB)
                      replace RU := Lib.hid (RU.out.next hB)
                      replace FP := has3 FP hB
                      replace FS := has2 FS hB
                      clear hB
                      by_cases hlt4 : k4 < 2
                      · obtain ⟨u, e0⟩ : ∃ u : Int, y.cell? ⟨S4, k4, none⟩ = some (Value.int .i64 (u)) := by
                          rcases (show k4 = 0 ∨ k4 = 1 by omega) with rfl | rfl
                          · exact ⟨to_, RU.out.cell 0⟩
                          · exact ⟨1 + u7, RU.out.cell 1⟩
                        have hS := RU.out.lt
                        obtain ⟨g0, g1, g2, ge, hA⟩ := CV.out p0 p1 p2 u z0' z1'
                        obtain ⟨bc, hC⟩ := RT.out z0' z1'
                        obtain ⟨kd, hK⟩ := KD.out u
                        have GA := Lib.hid hA
                        have GC := Lib.hid hC
                        have GK := Lib.hid hK
                        have nbc : (bc != bc) = false := bne_self_eq_false _
                        have nkd : (kd != kd) = false := bne_self_eq_false _
                        clear hA hC hK
                        go_wp2_with fail
                        clear e0 hS RU
                        refine (GA.out.1 _ HT.out).mono ?_
                        rintro e v1 ⟨rfl, hb⟩
                        have HB := Lib.hid hb
                        have hW : Below y.heap.size y v1 := by (repeat' first | exact Below.refl _ _ | assumption | (refine Below.andThen ?_ HB.out) | (exact HB.out.size) | (refine below_drewN ?_ _) | (refine Below.drew ?_) | (refine Below.alloc ?_ ?_ _) | (refine Below.setCell ?_ ?_ _) | (simp; done) | (simp; omega) | omega)
                        replace FP := has3 FP hW
                        replace FS := has2 FS hW
                        replace BB := Lib.hid (Below.andThen BB.out hW)
                        replace HT := Lib.hid (HT.out.next hW)
                        clear hb hW HB
                        go_wp2_with fail
                        refine (GA.out.2 _).mono ?_
                        rintro e v2 ⟨rfl, hb⟩
                        have HB := Lib.hid hb
                        have hW : Below v1.heap.size v1 v2 := by (repeat' first | exact Below.refl _ _ | assumption | (refine Below.andThen ?_ HB.out) | (exact HB.out.size) | (refine below_drewN ?_ _) | (refine Below.drew ?_) | (refine Below.alloc ?_ ?_ _) | (refine Below.setCell ?_ ?_ _) | (simp; done) | (simp; omega) | omega)
                        replace FP := has3 FP hW
                        replace FS := has2 FS hW
                        have F1 : Has3 v2 (v1.heap.size) ((Value.int .i64 (g0))) ((Value.int .i64 (g1))) ((Value.int .i64 (g2))) := has3 ⟨(by first | (simp; done) | (simp; omega)), by go_simp, by go_simp, by go_simp⟩ hb
                        replace BB := Lib.hid (Below.andThen BB.out hW)
                        replace HT := Lib.hid (HT.out.next hW)
                        clear hb hW HB
                        go_wp2_with fail
                        have HTr := Lib.hid (HT.out.next (show Below v2.heap.size v2 (v2.alloc (.cells #[(Value.int .i64 (g0)), (Value.int .i64 (g1)), (Value.int .i64 (g2))] 23)) by (repeat' first | with_reducible exact Below.refl _ _ | with_reducible assumption | (with_reducible refine below_drewN ?_ _) | (with_reducible refine Below.drew ?_) | (with_reducible refine Below.alloc ?_ ?_ _) | (with_reducible refine Below.setCell ?_ ?_ _) | omega | (simp; done) | (simp; omega))))
                        have l0 : bS < v2.heap.size + 1 := by omega
                        have l2 : v1.heap.size < v2.heap.size + 1 := by omega
                        refine wp_region_kin (by kernel_rfl) (by kernel_rfl) (v2.heap.size) 1 (by first | assumption | (simp; done) | (simp; omega) | omega | (have := HS.out; omega)) (fun hk => ?_)
                        repeat (go_big_quiet_step (first | (go_at_call 27; exact Calls.kin (GC.out.1 _ (HTr.out.next (Kin.below _)))) | (go_at_call 28; exact Calls.kin (GC.out.2 _)) | (go_at_call 29; exact Calls.kin (GK.out.1 _ (HTr.out.next (Kin.below _)))) | (go_at_call 30; exact Calls.kin (GK.out.2 _))))
                        refine wpQuiet_nil ?_
                        clear hk
                        intro v5 hb
                        have HB := Lib.hid hb
                        have hW : Below v2.heap.size v2 v5 := by (repeat' first | exact Below.refl _ _ | assumption | (refine Below.andThen ?_ HB.out) | (exact HB.out.size) | (refine below_drewN ?_ _) | (refine Below.drew ?_) | (refine Below.alloc ?_ ?_ _) | (refine Below.setCell ?_ ?_ _) | (simp; done) | (simp; omega) | omega)
                        replace BB := Lib.hid (Below.andThen BB.out hW)
                        replace HT := Lib.hid (HT.out.next hW)
                        clear hb hW HB
                        go_wp2_with fail
                        go_roundw
                        case rel => exact ⟨k4 + 1, by omega, by go_num, BB.out⟩
                        case measure => simp [intOf]; omega
                      · obtain rfl : k4 = 2 := by omega
                        go_wp2_with fail
                        go_roundw
                        case rel => exact ⟨k2 + 1, by omega, by go_num, Below.andThen B3.out BB.out⟩
                        case measure => simp [intOf]; omega
                  · obtain rfl : k2 = 2 := by omega
                    go_wp2_with fail
                    go_meet
                    exact B3.out
            rename World => W7
            have hb := hcut
            replace RB := Lib.hid (RB.out.next hb)
            replace RY := Lib.hid (RY.out.next hb)
            replace RR := Lib.hid (RR.out.next hb)
            replace RZ := Lib.hid (RZ.out.next hb)
            replace RS := Lib.hid (RS.out.next hb)
            replace FP := has3 FP hb
            replace BZ := Lib.hid (Below.andThen BZ.out hb)
            replace HB := Lib.hid (Below.andThen HB.out hb)
            as_aux_lemma =>
              clear hb hcut RT3 HT6
              go_wp2_with fail
              refine (ST.out _).mono ?_
              rintro e W8 ⟨rfl, hb⟩
              replace RB := Lib.hid (RB.out.next hb)
              replace RY := Lib.hid (RY.out.next hb)
              replace RR := Lib.hid (RR.out.next hb)
              replace RZ := Lib.hid (RZ.out.next hb)
              replace RS := Lib.hid (RS.out.next hb)
              replace FP := has3 FP hb
              replace BZ := Lib.hid (Below.andThen BZ.out hb)
              replace HB := Lib.hid (Below.andThen HB.out hb)
              clear hb
              go_upto_block 8 with fail
              refine wp_named fun W9 hw => ?_
              have hb : Below W8.heap.size W8 W9 := by rw [hw]; (repeat' first | with_reducible exact Below.refl _ _ | with_reducible assumption | (with_reducible refine below_drewN ?_ _) | (with_reducible refine Below.drew ?_) | (with_reducible refine Below.alloc ?_ ?_ _) | (with_reducible refine Below.setCell ?_ ?_ _) | omega | (simp; done) | (simp; omega))
              have RT5 := Lib.hid (show Row W9 W8.heap.size 3 [(Value.int .i64 (sz)), (Value.int .i64 (st))] by rw [hw]; exact Row.new _ _ _)
              replace RB := Lib.hid (RB.out.next hb)
              replace RY := Lib.hid (RY.out.next hb)
              replace RR := Lib.hid (RR.out.next hb)
              replace RZ := Lib.hid (RZ.out.next hb)
              replace RS := Lib.hid (RS.out.next hb)
              replace FP := has3 FP hb
              replace BZ := Lib.hid (Below.andThen BZ.out hb)
              replace HB := Lib.hid (Below.andThen HB.out hb)
              have HT9 := Lib.hid (T.out.next BZ.out)
              obtain ⟨S5, eb⟩ : ∃ b, b = W8.heap.size := ⟨_, rfl⟩
              rw [← eb] at RT5 ⊢
              clear eb hw hb
              as_aux_lemma =>
                go_cut [20, 43, 45, 47] (fun _ _ _ _ wx => Below W9.heap.size W9 wx)
                case first => as_aux_lemma =>
                    go_wp2_with fail
                    go_loopw [189] (fun i wr => ∃ k : Nat, k ≤ 2 ∧ i = (Value.int .i64 (k)) ∧ Below W9.heap.size W9 wr) (fun i _ => 2 - (intOf i).toNat)
                    case atStart => exact ⟨0, by omega, rfl, Below.refl _ _⟩
                    case round =>
                      obtain ⟨k2, hk2, rfl, hB⟩ := hrel
                      have BB := Lib.hid hB
                      have HT := Lib.hid (HT9.out.next hB)
                      replace RT5 := Lib.hid (RT5.out.next hB)
                      replace FP := has3 FP hB
                      clear hB
                      by_cases hlt2 : k2 < 2
                      · obtain ⟨u, e0⟩ : ∃ u : Int, wr.cell? ⟨S5, k2, none⟩ = some (Value.int .i64 (u)) := by
                          rcases (show k2 = 0 ∨ k2 = 1 by omega) with rfl | rfl
                          · exact ⟨sz, RT5.out.cell 0⟩
                          · exact ⟨st, RT5.out.cell 1⟩
                        have hS := RT5.out.lt
                        obtain ⟨g0, g1, g2, ge, hA⟩ := CS.out p0 p1 p2 u
                        have GA := Lib.hid hA
                        clear hA
                        go_wp2_with fail
                        clear e0 hS RT5
                        refine (GA.out.1 _ HT.out).mono ?_
                        rintro e v1 ⟨rfl, hb⟩
                        have HB := Lib.hid hb
                        have hW : Below wr.heap.size wr v1 := by (repeat' first | exact Below.refl _ _ | assumption | (refine Below.andThen ?_ HB.out) | (exact HB.out.size) | (refine below_drewN ?_ _) | (refine Below.drew ?_) | (refine Below.alloc ?_ ?_ _) | (refine Below.setCell ?_ ?_ _) | (simp; done) | (simp; omega) | omega)
                        replace FP := has3 FP hW
                        replace BB := Lib.hid (Below.andThen BB.out hW)
                        replace HT := Lib.hid (HT.out.next hW)
                        clear hb hW HB
                        go_wp2_with fail
                        refine (GA.out.2 _).mono ?_
                        rintro e v2 ⟨rfl, hb⟩
                        have HB := Lib.hid hb
                        have hW : Below v1.heap.size v1 v2 := by (repeat' first | exact Below.refl _ _ | assumption | (refine Below.andThen ?_ HB.out) | (exact HB.out.size) | (refine below_drewN ?_ _) | (refine Below.drew ?_) | (refine Below.alloc ?_ ?_ _) | (refine Below.setCell ?_ ?_ _) | (simp; done) | (simp; omega) | omega)
                        replace FP := has3 FP hW
                        have F1 : Has3 v2 (v1.heap.size) ((Value.int .i64 (g0))) ((Value.int .i64 (g1))) ((Value.int .i64 (g2))) := has3 ⟨(by first | (simp; done) | (simp; omega)), by go_simp, by go_simp, by go_simp⟩ hb
                        replace BB := Lib.hid (Below.andThen BB.out hW)
                        replace HT := Lib.hid (HT.out.next hW)
                        clear hb hW HB
                        go_wp2_with fail
                        go_roundw
                        case rel => exact ⟨k2 + 1, by omega, by go_num, by have bb := BB.out; have := bb.size; (repeat' first | with_reducible exact Below.refl _ _ | with_reducible assumption | (with_reducible refine below_drewN ?_ _) | (with_reducible refine Below.drew ?_) | (with_reducible refine Below.alloc ?_ ?_ _) | (with_reducible refine Below.setCell ?_ ?_ _) | omega | (simp; done) | (simp; omega))⟩
                        case measure => simp [intOf]; omega
                      · obtain rfl : k2 = 2 := by omega
                        go_wp2_with fail
                        go_meet
                        exact BB.out
                rename World => W10
                have hb := hcut
                replace RB := Lib.hid (RB.out.next hb)
                replace RY := Lib.hid (RY.out.next hb)
                replace RR := Lib.hid (RR.out.next hb)
                replace RZ := Lib.hid (RZ.out.next hb)
                replace RS := Lib.hid (RS.out.next hb)
                replace FP := has3 FP hb
                replace BZ := Lib.hid (Below.andThen BZ.out hb)
                replace HB := Lib.hid (Below.andThen HB.out hb)
                as_aux_lemma =>
                  clear hb hcut RT5 HT9
                  go_wp2_with fail
                  refine (PN.out _).mono ?_
                  rintro e W11 ⟨rfl, hb⟩
                  replace RB := Lib.hid (RB.out.next hb)
                  replace RY := Lib.hid (RY.out.next hb)
                  replace RR := Lib.hid (RR.out.next hb)
                  replace RZ := Lib.hid (RZ.out.next hb)
                  replace RS := Lib.hid (RS.out.next hb)
                  replace FP := has3 FP hb
                  replace BZ := Lib.hid (Below.andThen BZ.out hb)
                  replace HB := Lib.hid (Below.andThen HB.out hb)
                  clear hb
                  go_wp2_with fail
                  refine (PD.out _).mono ?_
                  rintro e W12 ⟨rfl, hb⟩
                  replace RB := Lib.hid (RB.out.next hb)
                  replace RY := Lib.hid (RY.out.next hb)
                  replace RR := Lib.hid (RR.out.next hb)
                  replace RZ := Lib.hid (RZ.out.next hb)
                  replace RS := Lib.hid (RS.out.next hb)
                  replace FP := has3 FP hb
                  replace BZ := Lib.hid (Below.andThen BZ.out hb)
                  replace HB := Lib.hid (Below.andThen HB.out hb)
                  clear hb
                  obtain ⟨h90, h91⟩ := hp9.out
                  go_upto_block 10 with fail
                  refine wp_named fun W13 hw => ?_
                  have hb : Below W12.heap.size W12 W13 := by rw [hw]; (repeat' first | with_reducible exact Below.refl _ _ | with_reducible assumption | (with_reducible refine below_drewN ?_ _) | (with_reducible refine Below.drew ?_) | (with_reducible refine Below.alloc ?_ ?_ _) | (with_reducible refine Below.setCell ?_ ?_ _) | omega | (simp; done) | (simp; omega))
                  have RT6 := Lib.hid (show Row W13 W12.heap.size 27 [(Value.int .i64 (nn)), (Value.int .i64 (dd)), (Value.int .i64 (p8)), (Value.int .i64 (1 + p9))] by rw [hw]; exact Row.new _ _ _)
                  replace RB := Lib.hid (RB.out.next hb)
                  replace RY := Lib.hid (RY.out.next hb)
                  replace RR := Lib.hid (RR.out.next hb)
                  replace RZ := Lib.hid (RZ.out.next hb)
                  replace RS := Lib.hid (RS.out.next hb)
                  replace FP := has3 FP hb
                  replace BZ := Lib.hid (Below.andThen BZ.out hb)
                  replace HB := Lib.hid (Below.andThen HB.out hb)
                  have HT13 := Lib.hid (T.out.next BZ.out)
                  obtain ⟨S6, eb⟩ : ∃ b, b = W12.heap.size := ⟨_, rfl⟩
                  rw [← eb] at RT6 ⊢
                  clear eb hw hb
                  as_aux_lemma =>
                    go_cut [20, 51, 53] (fun _ _ _ wx => Below W13.heap.size W13 wx)
                    case first => as_aux_lemma =>
                        go_wp2_with fail
                        go_loopw [225] (fun i wr => ∃ k : Nat, k ≤ 2 ∧ i = (Value.int .i64 (k)) ∧ Below W13.heap.size W13 wr) (fun i _ => 2 - (intOf i).toNat)
                        case atStart => exact ⟨0, by omega, rfl, Below.refl _ _⟩
                        case round =>
                          obtain ⟨k2, hk2, rfl, hB⟩ := hrel
                          have BB := Lib.hid hB
                          have HT := Lib.hid (HT13.out.next hB)
                          replace RT6 := Lib.hid (RT6.out.next hB)
                          replace FP := has3 FP hB
                          clear hB
                          by_cases hlt2 : k2 < 2
                          · obtain ⟨u, v, e0, e1⟩ : ∃ u v : Int, wr.cell? ⟨S6, k2 * 2, none⟩ = some (Value.int .i64 (u)) ∧ wr.cell? ⟨S6, k2 * 2 + 1, none⟩ = some (Value.int .i64 (v)) := by
                              rcases (show k2 = 0 ∨ k2 = 1 by omega) with rfl | rfl
                              · exact ⟨nn, dd, RT6.out.cell 0, RT6.out.cell 1⟩
                              · exact ⟨p8, 1 + p9, RT6.out.cell 2, RT6.out.cell 3⟩
                            have hS := RT6.out.lt
                            obtain ⟨g0, g1, g2, ge, hA⟩ := SH.out p0 p1 p2 u v
                            have GA := Lib.hid hA
                            clear hA
                            go_wp2_with fail
                            clear e0 e1 hS RT6
                            refine (GA.out.1 _ (HT.out.next (by (repeat' first | with_reducible exact Below.refl _ _ | with_reducible assumption | (with_reducible refine below_drewN ?_ _) | (with_reducible refine Below.drew ?_) | (with_reducible refine Below.alloc ?_ ?_ _) | (with_reducible refine Below.setCell ?_ ?_ _) | omega | (simp; done) | (simp; omega))))).mono ?_
                            rintro e v1 ⟨rfl, hb⟩
                            have HB := Lib.hid hb
                            have hW : Below wr.heap.size wr v1 := by (repeat' first | exact Below.refl _ _ | assumption | (refine Below.andThen ?_ HB.out) | (exact HB.out.size) | (refine below_drewN ?_ _) | (refine Below.drew ?_) | (refine Below.alloc ?_ ?_ _) | (refine Below.setCell ?_ ?_ _) | (simp; done) | (simp; omega) | omega)
                            replace FP := has3 FP hW
                            have FQ : Has2 v1 (wr.heap.size) ((Value.int .i64 (u))) ((Value.int .i64 (v))) := has2 ⟨(by first | (simp; done) | (simp; omega)), by go_simp, by go_simp⟩ hb
                            replace BB := Lib.hid (Below.andThen BB.out hW)
                            replace HT := Lib.hid (HT.out.next hW)
                            clear hb hW HB
                            go_wp2_with fail
                            refine (GA.out.2 _).mono ?_
                            rintro e v2 ⟨rfl, hb⟩
                            have HB := Lib.hid hb
                            have hW : Below v1.heap.size v1 v2 := by (repeat' first | exact Below.refl _ _ | assumption | (refine Below.andThen ?_ HB.out) | (exact HB.out.size) | (refine below_drewN ?_ _) | (refine Below.drew ?_) | (refine Below.alloc ?_ ?_ _) | (refine Below.setCell ?_ ?_ _) | (simp; done) | (simp; omega) | omega)
                            replace FP := has3 FP hW
                            replace FQ := has2 FQ hW
                            have F1 : Has3 v2 (v1.heap.size) ((Value.int .i64 (g0))) ((Value.int .i64 (g1))) ((Value.int .i64 (g2))) := has3 ⟨(by first | (simp; done) | (simp; omega)), by go_simp, by go_simp, by go_simp⟩ hb
                            replace BB := Lib.hid (Below.andThen BB.out hW)
                            replace HT := Lib.hid (HT.out.next hW)
                            clear hb hW HB
                            go_wp2_with fail
                            go_roundw
                            case rel => exact ⟨k2 + 1, by omega, by go_num, by have bb := BB.out; have := bb.size; (repeat' first | with_reducible exact Below.refl _ _ | with_reducible assumption | (with_reducible refine below_drewN ?_ _) | (with_reducible refine Below.drew ?_) | (with_reducible refine Below.alloc ?_ ?_ _) | (with_reducible refine Below.setCell ?_ ?_ _) | omega | (simp; done) | (simp; omega))⟩
                            case measure => simp [intOf]; omega
                          · obtain rfl : k2 = 2 := by omega
                            go_wp2_with fail
                            go_meet
                            exact BB.out
                    rename World => W14
                    have hb := hcut
                    replace RB := Lib.hid (RB.out.next hb)
                    replace RY := Lib.hid (RY.out.next hb)
                    replace RR := Lib.hid (RR.out.next hb)
                    replace RZ := Lib.hid (RZ.out.next hb)
                    replace RS := Lib.hid (RS.out.next hb)
                    replace FP := has3 FP hb
                    replace BZ := Lib.hid (Below.andThen BZ.out hb)
                    replace HB := Lib.hid (Below.andThen HB.out hb)
                    as_aux_lemma =>
                      clear hb hcut RT6 HT13
                      obtain ⟨bv, hv⟩ := VA.out p0 p1 p2
                      have HV := Lib.hid hv
                      have HTV := Lib.hid (T.out.next BZ.out)
                      have nbv : (bv != bv) = false := bne_self_eq_false _
                      clear hv
                      go_wp2_with fail
                      refine wp_region_kin (by kernel_rfl) (by kernel_rfl) (0) W14.heap.size (by first | assumption | (simp; done) | (simp; omega) | omega | (have := HS.out; omega)) (fun hk => ?_)
                      repeat (go_big_quiet_step (first | (go_at_call 36; exact Calls.kin (HV.out.1 _ (HTV.out.next (Kin.below _)))) | (go_at_call 37; exact Calls.kin (HV.out.2 _))))
                      refine wpQuiet_nil ?_
                      clear hk
                      intro W15 hb15
                      obtain ⟨hc15, hf15, hz15⟩ := after (B := 0) W14.heap.size hb15 (by first | assumption | (simp; done) | (simp; omega) | omega | (have := HS.out; omega)); have HB15 := Lib.hid hb15; clear hb15
                      go_wp2_with fail
                      go_roundw
                      case rel => exact ⟨k + 1, by omega, by go_num, Below.andThen HB.out HB15.out⟩
                      case measure => simp [intOf]; omega
    · obtain rfl : k = 2 := by omega
      go_wp2
      go_ret
      exact ⟨rfl, BZ.out⟩
end Go.Proofs.YtdldokhiefeloaaDoor
