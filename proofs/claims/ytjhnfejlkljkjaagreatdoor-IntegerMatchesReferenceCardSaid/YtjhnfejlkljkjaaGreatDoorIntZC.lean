/- Integers as strings: Div. -/
import Derived.Test.YtjhnfejlkljkjaaGreatDoorIntZB
namespace Go.Proofs.YtjhnfejlkljkjaaGreatDoor
open Go.RowKit

theorem divS_fit {a b : ByteArray} {x y : Int} (ha : In.num a = some x) (hb : In.num b = some y) (hy : y ≠ 0) (fx : In.Fit x) : In.divS a b = (In.txt (x / y), In.txt (x % y), 0) := by
  rw [In.divS_some ha hb hy, if_pos (Nat.lt_of_le_of_lt (In.quo_le x y) fx)]
set_option maxRecDepth 100000 in
set_option maxHeartbeats 2000000 in
theorem Div_any (a b : ByteArray) (w : World) (ht : TabI w) : Calls Tryz.prog 13 #[.string a, .string b] w fun e w' => e = .returned (.tuple #[.string (In.divS a b).1, .string (In.divS a b).2.1, .int .i64 (In.divS a b).2.2]) ∧ Below w.heap.size w w' := by
  have bad : (In.num a = none ∨ In.num b = none) → Calls Tryz.prog 13 #[.string a, .string b] w fun e w' => e = .returned (.tuple #[.string ⟨#[]⟩, .string ⟨#[]⟩, .int .i64 30]) ∧ Below w.heap.size w w' := by
    intro h
    have CR := Lib.hid (read_bad a b w (num_bad h))
    clear h ht
    go_enter Tryz.func13, Tryz.ntmps13
    go_wp2_with fail
    refine Calls.mono CR.out ?_
    rintro e w2 ⟨rfl, hb⟩
    have HB := Lib.hid hb
    clear hb
    go_wp2_with fail
    go_ret3
    exact ⟨rfl, (HB.out.alloc HB.out.size _).alloc (by have := HB.out.size; simp; omega) _⟩
  cases ha : In.num a with
  | none => rw [In.divS_left ha]; exact bad (.inl ha)
  | some x =>
    cases hb : In.num b with
    | none => rw [In.divS_right hb]; exact bad (.inr hb)
    | some y =>
      clear bad
      obtain ⟨a1, a2, fx⟩ := num_valid ha
      obtain ⟨b1, b2, fy⟩ := num_valid hb
      have lx := fit_groups fx
      have ly := fit_groups fy
      have CR := Lib.hid (read_ok a b w a1 b1)
      rw [a2, b2] at CR
      have HT := Lib.hid ht
      by_cases hy : y = 0
      · subst hy
        rw [In.divS_zero ha hb]
        clear ha hb a1 a2 b1 b2 fx fy lx ly ht
        go_enter Tryz.func13, Tryz.ntmps13
        go_wp2_with fail
        refine Calls.mono CR.out ?_
        rintro e w2 ⟨u, v, rfl, hu, hv, hb⟩
        have HB := Lib.hid hb
        obtain ⟨o, L, c, s, rfl, _, _, _⟩ := hu.form
        obtain ⟨o', L', c', s', rfl, _, hL, _⟩ := hv.form
        have e0 : L' = 0 := by rw [← hL]; rfl
        subst e0
        clear hu hv hb hL CR
        go_wp2_with fail
        go_ret3
        exact ⟨rfl, (HB.out.alloc HB.out.size _).alloc (by have := HB.out.size; simp; omega) _⟩
      · rw [divS_fit ha hb hy fx]
        have fq : In.Fit (x / y) := Nat.lt_of_le_of_lt (In.quo_le x y) fx
        have fr : In.Fit (x % y) := by
          have h1 := Int.emod_nonneg x hy
          have h2 := Int.emod_lt x hy
          have : (x % y).natAbs < y.natAbs := by omega
          exact Nat.lt_trans this fy
        have lq := fit_groups fq
        have lr := fit_groups fr
        have CO := Lib.hid (fun u v W h h' => overZ_any u v x y W h h' hy (by omega) (by omega))
        have PQ := Lib.hid (fun u W h ht => printZ_any u (x / y) W h (by omega) ht)
        have PR := Lib.hid (fun u W h ht => printZ_any u (x % y) W h (by omega) ht)
        rw [In.fit_pos fq] at PQ
        rw [In.fit_pos fr] at PR
        have HY := Lib.hid (show (In.gs y.natAbs).length ≠ 0 from fun h => hy (by have := In.gs_nil.1 h; omega))
        generalize x / y = q at *
        generalize x % y = r at *
        clear ha hb a1 a2 b1 b2 fx fy lx ly fq fr lq lr hy ht
        go_enter Tryz.func13, Tryz.ntmps13
        go_wp2_with fail
        refine Calls.mono CR.out ?_
        rintro e w2 ⟨u, v, rfl, hu, hv, hb⟩
        have HN := Lib.hid (And.intro hu (And.intro hv hb))
        obtain ⟨o, L, c, s, rfl, _, _, _⟩ := hu.form
        obtain ⟨o', L', c', s', rfl, _, hL', _⟩ := hv.form
        have HL0 : L' ≠ 0 := by rw [← hL']; exact HY.out
        have d0 : ((L' : Int) == 0) = false := by rw [beq_eq_false_iff_ne]; omega
        clear hu hv hb hL' HY CR
        go_upto_region 2 with (fail)
        refine wp_named fun w3 hw => ?_
        obtain ⟨b1, hb1⟩ : ∃ x, x = w2.heap.size := ⟨_, rfl⟩
        obtain ⟨b2, hb2⟩ : ∃ x, x = w2.heap.size + 1 := ⟨_, rfl⟩
        have R1 : Row w3 b1 47 [.slice o L c, .bool s] ∧ Row w3 b2 47 [.slice o' L' c', .bool s'] ∧ Below w2.heap.size w2 w3 := by
          rw [hw, hb1, hb2]
          exact boxes1 w2 _ [.slice o L c, .bool s] [.slice o' L' c', .bool s']
        rw [← hb2, ← hb1]
        have k0 := (Row.cell R1.1 0).trans (show _ = some (.slice o L c) from rfl)
        have k1 := (Row.cell R1.1 1).trans (show _ = some (.bool s) from rfl)
        have k2 := (Row.cell R1.2.1 0).trans (show _ = some (.slice o' L' c') from rfl)
        have k3 := (Row.cell R1.2.1 1).trans (show _ = some (.bool s') from rfl)
        have CF := Lib.hid (CO.out _ _ w3 (HN.out.1.next R1.2.2) (HN.out.2.1.next R1.2.2))
        have HB3 := Lib.hid (Below.andThen HN.out.2.2 R1.2.2)
        clear hw R1 hb1 hb2 CO
        go_wp2_with fail
        refine Calls.mono CF.out ?_
        rintro e w4 ⟨uq, ur, rfl, hq, hr, hb⟩
        have HQ := Lib.hid (And.intro hq (And.intro hr (Below.andThen HB3.out hb)))
        obtain ⟨o3, L3, c3, s3, rfl, _, _, _⟩ := hq.form
        obtain ⟨o4, L4, c4, s4, rfl, _, _, _⟩ := hr.form
        clear hq hr hb CF k0 k1 k2 k3
        go_upto_region 5 with (fail)
        refine wp_named fun w5 hw => ?_
        obtain ⟨b3, hb3⟩ : ∃ x, x = w4.heap.size := ⟨_, rfl⟩
        obtain ⟨b4, hb4⟩ : ∃ x, x = w4.heap.size + 1 := ⟨_, rfl⟩
        have R1 : Row w5 b3 47 [.slice o3 L3 c3, .bool s3] ∧ Row w5 b4 47 [.slice o4 L4 c4, .bool s4] ∧ Below w4.heap.size w4 w5 := by
          rw [hw, hb3, hb4]
          exact boxes1 w4 _ [.slice o3 L3 c3, .bool s3] [.slice o4 L4 c4, .bool s4]
        rw [← hb4, ← hb3]
        have k0 := (Row.cell R1.1 0).trans (show _ = some (.slice o3 L3 c3) from rfl)
        have k1 := (Row.cell R1.1 1).trans (show _ = some (.bool s3) from rfl)
        have hB5 := Below.andThen HQ.out.2.2 R1.2.2
        have CQ := Lib.hid (PQ.out _ w5 (HQ.out.1.next R1.2.2) (TabI.next HT.out hB5))
        have HR5 := Lib.hid (And.intro R1.2.1 (And.intro (HQ.out.2.1.next R1.2.2) hB5))
        clear hw R1 hb3 hb4 PQ hB5
        go_wp2_with fail
        refine Calls.mono CQ.out ?_
        rintro e w6 ⟨rfl, hb⟩
        have hR := HR5.out.1.next hb
        have k2 := (Row.cell hR 0).trans (show _ = some (.slice o4 L4 c4) from rfl)
        have k3 := (Row.cell hR 1).trans (show _ = some (.bool s4) from rfl)
        have hB6 := Below.andThen HR5.out.2.2 hb
        have CQ2 := Lib.hid (PR.out _ w6 (HR5.out.2.1.next hb) (TabI.next HT.out hB6))
        have HB6 := Lib.hid hB6
        clear hb hR hB6 CQ PR k0 k1
        go_wp2_with fail
        refine Calls.mono CQ2.out ?_
        rintro e w7 ⟨rfl, hb⟩
        have HB7 := Lib.hid (Below.andThen HB6.out hb)
        clear hb
        go_wp2_with fail
        go_ret3
        exact ⟨rfl, HB7.out⟩
end Go.Proofs.YtjhnfejlkljkjaaGreatDoor
