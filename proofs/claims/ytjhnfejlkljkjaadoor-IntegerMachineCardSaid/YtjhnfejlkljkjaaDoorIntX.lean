/- Integers as strings: read; differences. -/
import Derived.Test.YtjhnfejlkljkjaaDoorIntT
import Derived.Test.YtjhnfejlkljkjaaDoorIntU
namespace Go.Proofs.YtjhnfejlkljkjaaDoor
open Go.RowKit

set_option maxRecDepth 100000 in
set_option maxHeartbeats 1000000 in
theorem read_ok (a b : ByteArray) (w : World) (ha : In.validL a.data.toList = true) (hb : In.validL b.data.toList = true) :
    Calls Tryd.prog 32 #[.string a, .string b] w fun e w' => ∃ u v, e = .returned (.tuple #[u, v, .bool true]) ∧ NumV w' u (In.valL a.data.toList) ∧ NumV w' v (In.valL b.data.toList) ∧ Below w.heap.size w w' := by
  have CA := Lib.hid (fun W => valid_any a W)
  have CB := Lib.hid (fun W => valid_any b W)
  rw [ha] at CA
  rw [hb] at CB
  have PA := Lib.hid (fun W => parse_any a W ha)
  have PB := Lib.hid (fun W => parse_any b W hb)
  generalize In.valL a.data.toList = x at *
  generalize In.valL b.data.toList = y at *
  clear ha hb
  go_enter Tryd.func32, Tryd.ntmps32
  go_upto_region 3 with (go_at_call 19; first | (with_reducible refine Calls.mono (CA.out _) ?_; rintro e w' ⟨rfl, rfl⟩) | (with_reducible refine Calls.mono (CB.out _) ?_; rintro e w' ⟨rfl, rfl⟩))
  refine wp_named fun w1 hw => ?_
  obtain ⟨b1, hb1⟩ : ∃ x, x = w.heap.size := ⟨_, rfl⟩
  obtain ⟨b2, hb2⟩ : ∃ x, x = w.heap.size + 1 := ⟨_, rfl⟩
  have R1 : Row w1 b1 51 zeroN ∧ Row w1 b2 51 zeroN ∧ Below w.heap.size w w1 := by
    rw [hw, hb1, hb2]
    exact boxes1 w _ zeroN zeroN
  rw [← hb2, ← hb1]
  have HR := Lib.hid R1
  have HE := Lib.hid (show w.heap.size ≤ b1 ∧ w.heap.size ≤ b2 ∧ b1 ≠ b2 from by omega)
  clear hw R1 hb1 hb2 CA CB
  go_wp2_with fail
  refine Calls.mono (PA.out _) ?_
  rintro e w2 ⟨u, rfl, hn, hb⟩
  have HA := Lib.hid (And.intro hn hb)
  clear hn hb
  go_wp2_with fail
  refine Calls.mono (PB.out _) ?_
  rintro e w3 ⟨v, rfl, hn, hb⟩
  have hB := Below.andThen HA.out.2 hb
  have hR1 := HR.out.1.next hB
  have hR2 := HR.out.2.1.next hB
  have p0 := (Row.cell hR1 0).trans (show _ = some (.slice none 0 0) from rfl)
  have p1 := (Row.cell hR1 1).trans (show _ = some (.bool false) from rfl)
  have p2 := (Row.cell hR2 0).trans (show _ = some (.slice none 0 0) from rfl)
  have p3 := (Row.cell hR2 1).trans (show _ = some (.bool false) from rfl)
  have f0 := Row.frozen hR1 0
  have f1 := Row.frozen hR1 1
  have f2 := Row.frozen hR2 0
  have f3 := Row.frozen hR2 1
  have hq := HA.out.1.next hb
  have HBB := Lib.hid (Below.andThen HR.out.2.2 hB)
  obtain ⟨q1, q2, q3, q4, rfl, _, _, _⟩ := hq.form
  obtain ⟨t1, t2, t3, t4, rfl, _, _, _⟩ := hn.form
  have HRR := Lib.hid (And.intro hR1 (And.intro hR2 (And.intro hq hn)))
  have hne := HE.out.2.2
  clear hn hb hB hR1 hR2 hq PA PB
  go_wp2_with fail
  refine bodyPost_ret (v := .tuple #[.agg #[.slice q1 q2 q3, .bool q4], .agg #[.slice t1 t2 t3, .bool t4], .bool true]) (by first | (simp [results, Tryd.results32, go_sem]; done) | simp [results, Tryd.results32, go_sem, *]) rfl ?_
  obtain ⟨g3, g4, gq, gr⟩ := HRR.out
  have u1 := g3.set 0 (.slice q1 q2 q3)
  have u2 := (g4.other (Ne.symm hne) 0 (.slice q1 q2 q3)).other (Ne.symm hne) 1 (.bool q4)
  have u3 := u2.set 0 (.slice t1 t2 t3)
  exact ⟨_, _, rfl, NumV.store u3 (NumV.store u2 (NumV.store u1 (NumV.store g3 gq))), NumV.store u3 (NumV.store u2 (NumV.store u1 (NumV.store g3 gr))),
    (((HBB.out.setCell (p := ⟨b1, 0, none⟩) HE.out.1 _).setCell (p := ⟨b1, 1, none⟩) HE.out.1 _).setCell (p := ⟨b2, 0, none⟩) HE.out.2.1 _).setCell (p := ⟨b2, 1, none⟩) HE.out.2.1 _⟩
set_option maxRecDepth 100000 in
set_option maxHeartbeats 1000000 in
theorem read_bad (a b : ByteArray) (w : World) (h : (In.validL a.data.toList && In.validL b.data.toList) = false) :
    Calls Tryd.prog 32 #[.string a, .string b] w fun e w' => e = .returned (.tuple #[.agg #[.slice none 0 0, .bool false], .agg #[.slice none 0 0, .bool false], .bool false]) ∧ Below w.heap.size w w' := by
  have CA := Lib.hid (fun W => valid_any a W)
  have CB := Lib.hid (fun W => valid_any b W)
  cases ha : In.validL a.data.toList
  · rw [ha] at CA
    clear h ha
    go_enter Tryd.func32, Tryd.ntmps32
    go_wp2_with (go_at_call 19; first | (with_reducible refine Calls.mono (CA.out _) ?_; rintro e w' ⟨rfl, rfl⟩) | (with_reducible refine Calls.mono (CB.out _) ?_; rintro e w' ⟨rfl, rfl⟩))
    refine bodyPost_ret (v := .tuple #[.agg #[.slice none 0 0, .bool false], .agg #[.slice none 0 0, .bool false], .bool false]) (by first | (simp [results, Tryd.results32, go_sem]; done) | simp [results, Tryd.results32, go_sem, *]) rfl ⟨rfl, by (repeat' first | exact Below.refl _ _ | assumption | (refine below_drewN ?_ _) | (refine Below.drew ?_) | (refine Below.alloc ?_ ?_ _) | (refine Below.setCell ?_ ?_ _) | (simp; done) | (simp; omega) | omega)⟩
  · rw [ha, Bool.true_and] at h
    rw [ha] at CA
    rw [h] at CB
    clear h ha
    go_enter Tryd.func32, Tryd.ntmps32
    go_wp2_with (go_at_call 19; first | (with_reducible refine Calls.mono (CA.out _) ?_; rintro e w' ⟨rfl, rfl⟩) | (with_reducible refine Calls.mono (CB.out _) ?_; rintro e w' ⟨rfl, rfl⟩))
    refine bodyPost_ret (v := .tuple #[.agg #[.slice none 0 0, .bool false], .agg #[.slice none 0 0, .bool false], .bool false]) (by first | (simp [results, Tryd.results32, go_sem]; done) | simp [results, Tryd.results32, go_sem, *]) rfl ⟨rfl, by (repeat' first | exact Below.refl _ _ | assumption | (refine below_drewN ?_ _) | (refine Below.drew ?_) | (refine Below.alloc ?_ ?_ _) | (refine Below.setCell ?_ ?_ _) | (simp; done) | (simp; omega) | omega)⟩

set_option maxRecDepth 100000 in
set_option maxHeartbeats 2000000 in
theorem subZ_any (u v : Value) (x y : Int) (w : World) (hu : NumV w u x) (hv : NumV w v y) (lx : (In.gs x.natAbs).length ≤ 1000) (ly : (In.gs y.natAbs).length ≤ 1000) :
    Calls Tryd.prog 29 #[u, v] w fun e w' => ∃ r, e = .returned r ∧ NumV w' r (x - y) ∧ Below w.heap.size w w' := by
  have HS := Lib.hid (And.intro hu hv)
  obtain ⟨o, L, c, s, rfl, _, _, _⟩ := hu.form
  obtain ⟨o', L', c', s', rfl, _, _, _⟩ := hv.form
  have HZ := Lib.hid (show x + -y = x - y from rfl)
  have ln : (In.gs (-y).natAbs).length ≤ 1000 := by rw [Int.natAbs_neg]; exact ly
  clear hu hv
  go_enter Tryd.func29, Tryd.ntmps29
  go_upto_region 1 with (fail)
  refine wp_named fun w1 hw => ?_
  obtain ⟨b1, hb1⟩ : ∃ x, x = w.heap.size := ⟨_, rfl⟩
  obtain ⟨b2, hb2⟩ : ∃ x, x = w.heap.size + 1 := ⟨_, rfl⟩
  obtain ⟨b3, hb3⟩ : ∃ x, x = w.heap.size + 1 + 1 := ⟨_, rfl⟩
  have R1 : Row w1 b1 51 [.slice o L c, .bool s] ∧ Row w1 b2 51 [.slice o' L' c', .bool s'] ∧ Row w1 b3 51 zeroN ∧ Below w.heap.size w w1 := by
    rw [hw, hb1, hb2, hb3]
    exact boxes2 w _ [.slice o L c, .bool s] [.slice o' L' c', .bool s'] zeroN
  rw [← hb3, ← hb2, ← hb1]
  have HR := Lib.hid R1
  have HE := Lib.hid hb3
  have h00 : Below w1.heap.size w1 w1.drew := (Below.refl _ _).drew
  have k0 : w1.drew.cell? ⟨b1, 0, none⟩ = some (.slice o L c) := Row.cell R1.1 0
  have k1 : w1.drew.cell? ⟨b1, 1, none⟩ = some (.bool s) := Row.cell R1.1 1
  have k2 : w1.drew.cell? ⟨b2, 0, none⟩ = some (.slice o' L' c') := Row.cell R1.2.1 0
  have k3 : w1.drew.cell? ⟨b2, 1, none⟩ = some (.bool s') := Row.cell R1.2.1 1
  have CN := Lib.hid (neg_any (.agg #[.slice o' L' c', .bool s']) y w1.drew (HS.out.2.next (R1.2.2.2.drew)))
  clear hw R1 hb1 hb2 hb3
  go_region_law (first
    | (go_simp; go_at_call 30; with_reducible refine Calls.mono CN.out ?_; rintro e wa ⟨r1, rfl, hn1, hb1⟩; have HA := Lib.hid (And.intro hn1 (Below.andThen h00 hb1)); have k4 := (Row.cell (HR.out.1.next HA.out.2) 0).trans (show _ = some (.slice o L c) from rfl); have k5 := (Row.cell (HR.out.1.next HA.out.2) 1).trans (show _ = some (.bool s) from rfl); clear hn1 hb1)
    | (go_simp; go_at_call 28; with_reducible refine Calls.mono (plusZ_any (.agg #[.slice o L c, .bool s]) r1 x (-y) _ (HS.out.1.next (Below.andThen HR.out.2.2.2 HA.out.2)) HA.out.1 lx ln) ?_; rintro e wb ⟨r2, rfl, hn2, hb2⟩; have hB := Below.andThen HA.out.2 hb2; have hR2 := HR.out.2.2.1.next hB; have k6 := (Row.cell hR2 0).trans (show _ = some (.slice none 0 0) from rfl); have k7 := (Row.cell hR2 1).trans (show _ = some (.bool false) from rfl); have f6 := Row.frozen hR2 0; have f7 := Row.frozen hR2 1; rw [HZ.out] at hn2; obtain ⟨o3, L3, c3, s3, rfl, _, _, _⟩ := hn2.form; have HF := Lib.hid (And.intro (num_store hR2 hn2) hB); clear hn2 hb2 hB hR2))
  all_goals (
    go_simp
    go_wp2_with fail
    refine bodyPost_ret (v := .agg #[.slice o3 L3 c3, .bool s3]) (by first | (simp [results, Tryd.results29, go_sem]; done) | simp [results, Tryd.results29, go_sem, *]) rfl ⟨_, rfl, HF.out.1.1, (Below.andThen HR.out.2.2.2 HF.out.2).trans (HF.out.1.2.1.mono (by have := HE.out; omega))⟩)
end Go.Proofs.YtjhnfejlkljkjaaDoor
