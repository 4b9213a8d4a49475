/- Numbers with signs: products. -/
import Derived.Test.YtjhnfejlkljkjaaDoorIntS
namespace Go.Proofs.YtjhnfejlkljkjaaDoor
open Go.RowKit

set_option maxRecDepth 100000 in
set_option maxHeartbeats 2000000 in
theorem timesZ_any (u v : Value) (x y : Int) (w : World) (hu : NumV w u x) (hv : NumV w v y) (hl : (In.gs x.natAbs).length + (In.gs y.natAbs).length ≤ 900) :
    Calls Tryd.prog 31 #[u, v] w fun e w' => ∃ r, e = .returned r ∧ NumV w' r (x * y) ∧ Below w.heap.size w w' := by
  obtain ⟨o, L, c, s, rfl, hs, -, hsn⟩ := hu.form
  obtain ⟨o', L', c', s', rfl, hs', -, hsn'⟩ := hv.form
  have HS := Lib.hid hs
  have HS' := Lib.hid hs'
  have HZ := Lib.hid (show In.sgn (x.natAbs * y.natAbs) (!(s == s')) = x * y from by
    have h := In.sgn_times x.natAbs y.natAbs s s'
    rw [← hsn, ← hsn', In.sgn_neg, In.sgn_neg] at h
    rw [h, ← hsn, ← hsn']
    rfl)
  clear hs hsn hu hs' hsn' hv
  go_enter Tryd.func31, Tryd.ntmps31
  go_upto_region 1 with (fail)
  refine wp_named fun w1 hw => ?_
  obtain ⟨b1, hb1⟩ : ∃ x, x = w.heap.size := ⟨_, rfl⟩
  obtain ⟨b2, hb2⟩ : ∃ x, x = w.heap.size + 1 := ⟨_, rfl⟩
  obtain ⟨b3, hb3⟩ : ∃ x, x = w.heap.size + 1 + 1 := ⟨_, rfl⟩
  have R1 : Row w1 b1 51 [.slice o L c, .bool s] ∧ Row w1 b2 51 [.slice o' L' c', .bool s'] ∧ Row w1 b3 51 zeroN ∧ Below w.heap.size w w1 := by
    rw [hw, hb1, hb2, hb3]
    exact boxes2 w _ [.slice o L c, .bool s] [.slice o' L' c', .bool s'] zeroN
  rw [← hb3, ← hb2, ← hb1]
  have HR := Lib.hid R1
  have HE := Lib.hid hb3
  have h00 : Below w1.heap.size w1 w1.drew := (Below.refl _ _).drew
  have k0 : w1.drew.cell? ⟨b1, 0, none⟩ = some (.slice o L c) := Row.cell R1.1 0
  have k1 : w1.drew.cell? ⟨b1, 1, none⟩ = some (.bool s) := Row.cell R1.1 1
  have k2 : w1.drew.cell? ⟨b2, 0, none⟩ = some (.slice o' L' c') := Row.cell R1.2.1 0
  have k3 : w1.drew.cell? ⟨b2, 1, none⟩ = some (.bool s') := Row.cell R1.2.1 1
  have CT := Lib.hid (times_any (.slice o L c) (.slice o' L' c') x.natAbs y.natAbs w1.drew (HS.out.next (R1.2.2.2.drew)) (HS'.out.next (R1.2.2.2.drew)) hl)
  clear hw R1 hb1 hb2 hb3
  go_region_law (first
    | (go_simp; go_at_call 50; with_reducible refine Calls.mono CT.out ?_; rintro e wa ⟨r1, rfl, hn1, hb1⟩; have HA := Lib.hid (And.intro hn1 (Below.andThen h00 hb1)); have k4 := (Row.cell (HR.out.1.next HA.out.2) 1).trans (show _ = some (.bool s) from rfl); have k5 := (Row.cell (HR.out.2.1.next HA.out.2) 1).trans (show _ = some (.bool s') from rfl); clear hn1 hb1)
    | (go_simp; go_at_call 41; with_reducible refine Calls.mono (signed_any r1 (x.natAbs * y.natAbs) (!(s == s')) _ HA.out.1) ?_; rintro e wb ⟨r2, rfl, hn2, hb2⟩; have hB := Below.andThen HA.out.2 hb2; have hR2 := HR.out.2.2.1.next hB; have k6 := (Row.cell hR2 0).trans (show _ = some (.slice none 0 0) from rfl); have k7 := (Row.cell hR2 1).trans (show _ = some (.bool false) from rfl); have f6 := Row.frozen hR2 0; have f7 := Row.frozen hR2 1; rw [HZ.out] at hn2; obtain ⟨o3, L3, c3, s3, rfl, _, _, _⟩ := hn2.form; have HF := Lib.hid (And.intro (num_store hR2 hn2) hB); clear hn2 hb2 hB hR2))
  all_goals (
    go_simp
    go_wp2_with fail
    refine bodyPost_ret (v := .agg #[.slice o3 L3 c3, .bool s3]) (by first | (simp [results, Tryd.results31, go_sem]; done) | simp [results, Tryd.results31, go_sem, *]) rfl ⟨_, rfl, HF.out.1.1, (Below.andThen HR.out.2.2.2 HF.out.2).trans (HF.out.1.2.1.mono (by have := HE.out; omega))⟩)
end Go.Proofs.YtjhnfejlkljkjaaDoor
