/- Integers as strings: Compare, FromInt, ToInt, Root. -/
import Derived.Test.YtjhnfejlkljkjaaDoorIntZ
namespace Go.Proofs.YtjhnfejlkljkjaaDoor
open Go.RowKit

set_option maxRecDepth 100000 in
set_option maxHeartbeats 2000000 in
theorem Compare_any (a b : ByteArray) (w : World) : Calls Tryd.prog 17 #[.string a, .string b] w fun e w' => e = .returned (.int .i64 (In.cmpS a b)) ∧ Below w.heap.size w w' := by
  have bad : (In.num a = none ∨ In.num b = none) → Calls Tryd.prog 17 #[.string a, .string b] w fun e w' => e = .returned (.int .i64 0) ∧ Below w.heap.size w w' := by
    intro h
    have CR := Lib.hid (read_bad a b w (num_bad h))
    clear h
    go_enter Tryd.func17, Tryd.ntmps17
    go_wp2_with fail
    refine Calls.mono CR.out ?_
    rintro e w2 ⟨rfl, hb⟩
    have HB := Lib.hid hb
    clear hb
    go_wp2_with fail
    go_ret
    exact ⟨rfl, (HB.out.alloc HB.out.size _).alloc (by have := HB.out.size; simp; omega) _⟩
  cases ha : In.num a with
  | none => rw [In.cmpS_left ha]; exact bad (.inl ha)
  | some x =>
    cases hb : In.num b with
    | none => rw [In.cmpS_right hb]; exact bad (.inr hb)
    | some y =>
      clear bad
      rw [In.cmpS_some ha hb]
      obtain ⟨a1, a2, fx⟩ := num_valid ha
      obtain ⟨b1, b2, fy⟩ := num_valid hb
      have lx := fit_groups fx
      have ly := fit_groups fy
      have CR := Lib.hid (read_ok a b w a1 b1)
      rw [a2, b2] at CR
      have CC := Lib.hid (fun u v W h h' => compareZ_any u v x y W h h' (by omega) (by omega))
      clear ha hb a1 a2 b1 b2 lx ly fx fy
      go_enter Tryd.func17, Tryd.ntmps17
      go_wp2_with fail
      refine Calls.mono CR.out ?_
      rintro e w2 ⟨u, v, rfl, hu, hv, hb⟩
      have HN := Lib.hid (And.intro hu (And.intro hv hb))
      obtain ⟨o, L, c, s, rfl, _, _, _⟩ := hu.form
      obtain ⟨o', L', c', s', rfl, _, _, _⟩ := hv.form
      clear hu hv hb CR
      go_upto_region 2 with (fail)
      refine wp_named fun w3 hw => ?_
      obtain ⟨b1, hb1⟩ : ∃ x, x = w2.heap.size := ⟨_, rfl⟩
      obtain ⟨b2, hb2⟩ : ∃ x, x = w2.heap.size + 1 := ⟨_, rfl⟩
      have R1 : Row w3 b1 51 [.slice o L c, .bool s] ∧ Row w3 b2 51 [.slice o' L' c', .bool s'] ∧ Below w2.heap.size w2 w3 := by
        rw [hw, hb1, hb2]
        exact boxes1 w2 _ [.slice o L c, .bool s] [.slice o' L' c', .bool s']
      rw [← hb2, ← hb1]
      have k0 := (Row.cell R1.1 0).trans (show _ = some (.slice o L c) from rfl)
      have k1 := (Row.cell R1.1 1).trans (show _ = some (.bool s) from rfl)
      have k2 := (Row.cell R1.2.1 0).trans (show _ = some (.slice o' L' c') from rfl)
      have k3 := (Row.cell R1.2.1 1).trans (show _ = some (.bool s') from rfl)
      have CF := Lib.hid (CC.out _ _ w3 (HN.out.1.next R1.2.2) (HN.out.2.1.next R1.2.2))
      have HB3 := Lib.hid (Below.andThen HN.out.2.2 R1.2.2)
      clear hw R1 hb1 hb2 CC
      go_wp2_with fail
      refine Calls.mono CF.out ?_
      rintro e w4 ⟨rfl, hb⟩
      have HB4 := Lib.hid (Below.andThen HB3.out hb)
      clear hb
      go_wp2_with fail
      go_ret
      exact ⟨rfl, HB4.out⟩

theorem itoa_any (n : Int) (w : World) (hn : -9223372036854775808 ≤ n ∧ n ≤ 9223372036854775807) (ht : TabI w) : Calls Tryd.prog 25 #[.int .i64 n] w fun e w' => e = .returned (.string (In.txt n)) ∧ Below w.heap.size w w' := by
  refine (Tryd.strconv_Itoa n hn.1 hn.2 w ht).mono ?_
  rintro e w' ⟨rfl, k, os, rfl⟩
  exact ⟨rfl, below_grown _ _ _⟩
theorem FromInt_any (n : Int) (w : World) (hn : -9223372036854775808 ≤ n ∧ n ≤ 9223372036854775807) (ht : TabI w) : Calls Tryd.prog 12 #[.int .i64 n] w fun e w' => e = .returned (.string (In.txt n)) ∧ Below w.heap.size w w' := by
  have HC := Lib.hid (itoa_any n w hn ht)
  clear hn ht
  go_enter Tryd.func12, Tryd.ntmps12
  go_wp2_with fail
  refine Calls.mono HC.out ?_
  rintro e w' ⟨rfl, hb⟩
  have HB := Lib.hid hb
  clear hb
  go_wp2_with fail
  go_ret
  exact ⟨rfl, HB.out⟩

/-- the variable with the error of a number out of range -/
def TabE (w : World) : Prop := ∃ tp p, w.cell? ⟨1, 0, none⟩ = some (.iface tp p)
theorem TabE.next {w w' : World} (h : TabE w) (hb : Below w.heap.size w w') : TabE w' := by
  obtain ⟨tp, p, h⟩ := h
  exact ⟨tp, p, (hb.cell (p := ⟨1, 0, none⟩) (World.block_lt_of_cell? w _ h)).trans h⟩
theorem txt_size {z : Int} (h : In.Fit z) : (In.txt z).size ≤ 201 := by
  have h1 := (In.dec_len_le (u := z.natAbs) (k := 200) (by decide)).2 h
  rw [Lib.size_eq, In.txt_list]
  unfold In.txtL Lib.itoa
  split
  · rw [List.length_cons]; omega
  · rw [show z.toNat = z.natAbs by omega]; omega
set_option maxRecDepth 100000 in
set_option maxHeartbeats 2000000 in
theorem ToInt_any (a : ByteArray) (w : World) (ht : TabE w) : Calls Tryd.prog 13 #[.string a] w fun e w' => e = .returned (.tuple #[.int .i64 (In.toS a).1, .int .i64 (In.toS a).2]) ∧ Below w.heap.size w w' := by
  have CV := Lib.hid (fun W => valid_any a W)
  cases ha : In.num a with
  | none =>
    rw [In.num_none.1 ha] at CV
    rw [In.toS_none ha]
    clear ha ht
    go_enter Tryd.func13, Tryd.ntmps13
    go_wp2_with (go_at_call 19; refine Calls.mono (CV.out _) ?_; rintro e w' ⟨rfl, rfl⟩)
    go_ret2
    exact ⟨rfl, Below.refl _ _⟩
  | some x =>
    obtain ⟨a1, a2, fx⟩ := num_valid ha
    rw [a1] at CV
    rw [In.toS_some ha]
    have hs := txt_size fx
    have hat := In.atoi_txt x
    rw [← In.txt_list] at hat
    obtain ⟨rfl, _⟩ := In.num_some ha
    by_cases hx : -9223372036854775808 ≤ x ∧ x ≤ 9223372036854775807
    · rw [if_pos hx] at hat ⊢
      have CA := Lib.hid (fun W => Tryd.strconv_Atoi_ok (In.txt x) (by omega) x hat W)
      clear ha a1 a2 hs hat ht fx
      generalize In.txt x = t at *
      go_enter Tryd.func13, Tryd.ntmps13
      go_wp2_with (go_at_call 19; refine Calls.mono (CV.out _) ?_; rintro e w' ⟨rfl, rfl⟩)
      refine Calls.mono (CA.out _) ?_
      rintro e w2 ⟨rfl, hw⟩
      have HB := Lib.hid (show Below w.heap.size w w2 from by
        rcases hw with rfl | ⟨t, rfl⟩
        · exact Below.refl _ _
        · exact Lib.bytesWorld_below _ _ _)
      clear hw
      go_wp2_with fail
      go_ret2
      exact ⟨rfl, HB.out⟩
    · rw [if_neg hx] at hat ⊢
      have CA := Lib.hid (fun tp p hv => Tryd.strconv_Atoi_range (In.txt x) (by omega) hat (.iface tp p) w hv (.inr ⟨tp, p, rfl⟩))
      clear ha a1 a2 hs hat fx hx
      generalize Lib.atoiSat (In.txt x).data.toList = sat at *
      generalize In.txt x = t at *
      obtain ⟨tp, p, hv⟩ := ht
      have CA2 := Lib.hid (CA.out tp p hv)
      clear CA hv
      go_enter Tryd.func13, Tryd.ntmps13
      go_wp2_with (go_at_call 19; refine Calls.mono (CV.out _) ?_; rintro e w' ⟨rfl, rfl⟩)
      refine Calls.mono CA2.out ?_
      rintro e w2 ⟨N, rfl, _, _, hb⟩
      have HB := Lib.hid hb
      clear hb
      go_wp2_with fail
      go_ret2
      exact ⟨rfl, HB.out⟩

set_option maxRecDepth 100000 in
set_option maxHeartbeats 2000000 in
theorem Root_any (a : ByteArray) (w : World) (ht : TabI w) : Calls Tryd.prog 22 #[.string a] w fun e w' => e = .returned (.tuple #[.string (In.rootS a).1, .int .i64 (In.rootS a).2]) ∧ Below w.heap.size w w' := by
  have CV := Lib.hid (fun W => valid_any a W)
  cases ha : In.num a with
  | none =>
    rw [In.num_none.1 ha] at CV
    rw [In.rootS_none ha]
    clear ha ht
    go_enter Tryd.func22, Tryd.ntmps22
    go_wp2_with (go_at_call 19; refine Calls.mono (CV.out _) ?_; rintro e w' ⟨rfl, rfl⟩)
    go_ret2
    exact ⟨rfl, Below.refl _ _⟩
  | some x =>
    obtain ⟨a1, a2, fx⟩ := num_valid ha
    rw [a1] at CV
    have hng := In.v_neg a1
    rw [a2] at hng
    have hne : a.data.toList ≠ [] := by
      intro h
      rw [h] at a1
      exact absurd a1 (by decide)
    have hp : 0 < a.size := by
      rcases Nat.eq_zero_or_pos a.size with h | h
      · exact absurd (List.eq_nil_of_length_eq_zero (by rw [← Lib.size_eq]; exact h)) hne
      · exact h
    have hc := ba_at a 0 hp
    have i1 := fun (W : World) => run_index_at (P := Tryd.prog) W 9 a .i64 0 rfl hp
    rw [show ((0 : Nat) : Int) = 0 from rfl] at i1
    have hng1 := hng.1
    rw [List.head?_eq_getElem?, hc] at hng1
    generalize (a[0]'hp) = c at *
    have hcx : In.neg x = decide (c.toNat = 45) := by
      rw [hng1, decide_eq_decide]
      constructor
      · intro h; rw [Option.some.inj h]; rfl
      · intro h; exact congrArg some (UInt8.toNat_inj.1 (by rw [h]; rfl))
    have lx := fit_groups fx
    have CP := Lib.hid (fun W => parse_any a W a1)
    rw [a2] at CP
    have HT := Lib.hid ht
    have HX := Lib.hid hcx
    clear hng hne hc hng1 hcx a1 a2 ht
    generalize c.toNat = d at *
    by_cases hx : x < 0
    · rw [In.rootS_neg ha hx]
      have e : d = 45 := by
        have h := HX.out
        unfold In.neg at h
        rw [decide_eq_true hx] at h
        simpa using h.symm
      subst e
      clear ha HX hx lx fx
      go_enter Tryd.func22, Tryd.ntmps22
      go_wp2_with (go_at_call 19; refine Calls.mono (CV.out _) ?_; rintro e w' ⟨rfl, rfl⟩)
      go_ret2
      exact ⟨rfl, Below.refl _ _⟩
    · rw [In.rootS_some ha (by omega)]
      have e : d ≠ 45 := by
        have h := HX.out
        unfold In.neg at h
        rw [decide_eq_false hx] at h
        simpa using h.symm
      have d1 : ((d : Int) == 45) = false := by rw [beq_eq_false_iff_ne]; omega
      have d2 : decide ((d : Int) = 45) = false := by rw [decide_eq_false_iff_not]; omega
      have CR := Lib.hid (fun u W h => root_any u x.natAbs W h (by omega))
      have fr : In.Fit (In.sqrtN x.natAbs : Int) := by
        have h1 := In.sqrtN_le x.natAbs
        show Int.natAbs ((In.sqrtN x.natAbs : Nat) : Int) < _
        rw [Int.natAbs_natCast]
        exact Nat.lt_of_le_of_lt h1 fx
      have lr := fit_groups fr
      have CS := Lib.hid (fun u W h => signed_any u (In.sqrtN x.natAbs) false W h)
      have CPR := Lib.hid (fun u W h ht => printZ_any u (In.sqrtN x.natAbs : Int) W h (by omega) ht)
      rw [In.fit_pos fr] at CPR
      generalize In.sqrtN x.natAbs = r at *
      clear ha HX hx lx fx e fr lr
      go_enter Tryd.func22, Tryd.ntmps22
      go_wp2_with (go_at_call 19; refine Calls.mono (CV.out _) ?_; rintro e w' ⟨rfl, rfl⟩)
      refine Calls.mono (CP.out _) ?_
      rintro e w2 ⟨u, rfl, hu, hb⟩
      have HB2 := Lib.hid hb
      obtain ⟨o, L, c, s, rfl, hs, _, _⟩ := hu.form
      have CR2 := Lib.hid (CR.out _ w2 hs)
      have hfd : ∀ w : World, (Instr.field 51 (.agg #[.slice o L c, .bool s]) 0).run Tryd.prog w = .ok (.slice o L c) w := fun _ => by kernel_rfl
      clear hu hs hb CR CP
      go_wp2_with fail
      refine Calls.mono CR2.out ?_
      rintro e w3 ⟨q, rfl, hn, hb⟩
      have HB3 := Lib.hid (Below.andThen HB2.out hb)
      have CS2 := Lib.hid (CS.out _ w3 hn)
      clear hn hb CS
      go_wp2_with fail
      refine Calls.mono CS2.out ?_
      rintro e w4 ⟨q2, rfl, hn, hb⟩
      have HB4 := Lib.hid (Below.andThen HB3.out hb)
      have CPR2 := Lib.hid (CPR.out _ w4 hn (TabI.next HT.out HB4.out))
      clear hn hb CPR
      go_wp2_with fail
      refine Calls.mono CPR2.out ?_
      rintro e w5 ⟨rfl, hb⟩
      have HB5 := Lib.hid (Below.andThen HB4.out hb)
      clear hb
      go_wp2_with fail
      go_ret2
      exact ⟨rfl, HB5.out⟩
end Go.Proofs.YtjhnfejlkljkjaaDoor
