/- For every input, RationalLimits returns true; the listed tables hold what the program's text lays. -/
import Derived.Test.YtlehjmanlccncaaGreatDoorRatFr
import Derived.Test.YtlehjmanlccncaaGreatDoorRatGG
import Derived.Test.YtlehjmanlccncaaGreatDoorRatWC
import Derived.Test.YtlehjmanlccncaaGreatDoorRatTen
set_option linter.unusedVariables false
set_option linter.unusedSimpArgs false
namespace Go.Proofs.YtlehjmanlccncaaGreatDoor
open Go.RowKit Go.ChangeShapes Go.WideShapes Go.ChangeAt

set_option maxRecDepth 100000 in
set_option maxHeartbeats 8000000 in
theorem rationalLimits_law (n0 m0 : Int) (w : World) (T : RW w) (hn : -9223372036854775808 ≤ n0 ∧ n0 ≤ 9223372036854775807) (hm : -9223372036854775808 ≤ m0 ∧ m0 ≤ 9223372036854775807) :
    Calls Tryz.prog 10 #[.int .i64 n0, .int .i64 m0] w fun r w' => r = .returned (.bool true) ∧ Below w.heap.size w w' := by
  have HT := Lib.hid T
  have BB := Lib.hid (Below.refl w.heap.size w)
  have HS := Lib.hid sane_any
  have CI := Lib.hid is_any
  obtain ⟨n, en, hn2⟩ := pick_nat n0 (n := 200) (by decide)
  obtain ⟨m, em, hm2⟩ := pick_nat m0 (n := 200) (by decide)
  have KN := Lib.hid (fun W => pick_r n0 200 W (by decide) hn.1 hn.2)
  have KM := Lib.hid (fun W => pick_r m0 200 W (by decide) hm.1 hm.2)
  rw [show pickZ n0 200 = (n : Int) from en] at KN
  rw [show pickZ m0 200 = (m : Int) from em] at KM
  have vn := Ra.val_tx (Ra.ten_ok hn2)
  have vm := Ra.val_tx (Ra.ten_ok hm2)
  have vm' := Ra.val_tx (Ra.ten_ok' hm2)
  have v1 := Ra.val_tx Ra.one_ok
  rw [← ten_tx] at vn vm
  rw [← ten_tx'] at vm'
  rw [← one_tx] at v1
  have CM := Lib.hid (fun W (T : RW W) => Mul_r (tenS n, ⟨#[49]⟩) (tenS m, ⟨#[49]⟩) W T.tab)
  have CD := Lib.hid (fun W (T : RW W) => Div_r (⟨#[49]⟩, ⟨#[49]⟩) (tenS m, ⟨#[49]⟩) W T.tab)
  have CA := Lib.hid (fun W (T : RW W) => Add_r (tenS n, ⟨#[49]⟩) (⟨#[49]⟩, tenS m) W T.tab)
  have C1 := Lib.hid (fun W (T : RW W) => Compare_r (tenS n, ⟨#[49]⟩) (tenS m, ⟨#[49]⟩) W T.tab)
  have C2 := Lib.hid (fun W (T : RW W) => Compare_r (tenS n, ⟨#[49]⟩) (⟨#[49]⟩, tenS m) W T.tab)
  rw [vn, vm, Ra.ten_mul] at CM
  rw [v1, vm, Ra.ten_div hm2] at CD
  have eD : resV (some (1, 10 ^ m)) = .tuple #[ratV (⟨#[49]⟩, tenS m), .int .i64 0] := by rw [ten_tx']; rfl
  rw [eD] at CD
  rw [vn, vm'] at CA
  rw [vn, vm, Ra.ten_cmp] at C1
  rw [vn, vm', Ra.ten_above] at C2
  have hadd := Ra.ten_add (n := n) (m := m) hm2
  obtain ⟨q1, q2, eq, hq⟩ : ∃ (q1 q2 : ByteArray) (eq : Int), resV (if n + m < 200 then some ((10 : Int) ^ (n + m), (1 : Int)) else none) = .tuple #[ratV (q1, q2), .int .i64 eq] := ⟨_, _, _, rfl⟩
  obtain ⟨s1, s2, es, hs⟩ : ∃ (q1 q2 : ByteArray) (eq : Int), resV (Ra.addO (some ((10 : Int) ^ n, (1 : Int))) (some ((1 : Int), (10 : Int) ^ m))) = .tuple #[ratV (q1, q2), .int .i64 eq] := ⟨_, _, _, rfl⟩
  have HF := Lib.hid (show (decide ((n : Int) + m + 1 ≤ 200) = true ∧ eq = 0 ∧ es = 0) ∨ (decide ((n : Int) + m + 1 ≤ 200) = false ∧ eq = 40 ∧ es = 40 ∧ q1 = ⟨#[]⟩ ∧ q2 = ⟨#[]⟩) from by
    simp only [Value.tuple.injEq, Array.mk.injEq, List.cons.injEq, and_true, Value.int.injEq, Value.agg.injEq, Value.string.injEq, true_and] at hq hs
    by_cases h : n + m < 200
    · refine .inl ⟨by rw [decide_eq_true_eq]; omega, ?_, ?_⟩
      · rw [← hq.2, if_pos h]; rfl
      · obtain ⟨u, hu⟩ := Option.ne_none_iff_exists'.1 (hadd.2 h)
        rw [← hs.2, hu]; rfl
    · have e0 : Ra.addO (some ((10 : Int) ^ n, (1 : Int))) (some ((1 : Int), (10 : Int) ^ m)) = none := Decidable.not_not.1 (fun k => h (hadd.1 k))
      refine .inr ⟨by rw [decide_eq_false_iff_not]; omega, ?_, ?_, ?_, ?_⟩
      · rw [← hq.2, if_neg h]; rfl
      · rw [← hs.2, e0]; rfl
      · rw [← hq.1.1, if_neg h]; rfl
      · rw [← hq.1.2, if_neg h]; rfl)
  rw [hq] at CM
  rw [hs] at CA
  have HC := Lib.hid (show (n < m ∧ ¬ m < n ∧ ¬ n + m = 0) ∨ (¬ n < m ∧ m < n ∧ ¬ n + m = 0) ∨ (¬ n < m ∧ ¬ m < n ∧ ¬ n + m = 0) ∨ (n = 0 ∧ m = 0) from by omega)
  clear hq hs hadd vn vm vm' v1 eD en em hn hm T
  go_enter Tryz.func10, Tryz.ntmps10
  go_wp2_with fail
  with_reducible refine Calls.mono (HS.out _ HT.out) ?_
  rintro e w1 ⟨rfl, hb⟩
  replace HT := Lib.hid (HT.out.next hb)
  replace BB := Lib.hid (Below.andThen BB.out hb)
  clear hb
  go_wp2_with fail
  with_reducible refine Calls.mono (KN.out _) ?_
  rintro e w' ⟨rfl, rfl⟩
  go_wp2_with fail
  with_reducible refine Calls.mono (KM.out _) ?_
  rintro e w' ⟨rfl, rfl⟩
  go_wp2_with fail
  go_loopw [6, 7] (fun sv iv wr => ∃ i : Nat, iv = .int .i64 i ∧ i ≤ n ∧ sv = .string (tenS i) ∧ w1 = wr) (fun _ iv _ => n - (intOf iv).toNat)
  case atStart => refine ⟨0, ?_, ?_, ?_, ?_⟩ <;> first | trivial | rfl | omega
  case round =>
    obtain ⟨i, rfl, hi, rfl, rfl⟩ := hrel
    have hz := tenS_size i
    by_cases h : i < n
    · have HN := Lib.hid (tenS_next i)
      have HNN := Lib.hid (tenS_size (i + 1))
      generalize tenS i = s at *
      have hs : ¬ (9223372036854775807 < s.size + (⟨#[48]⟩ : ByteArray).size) := by rw [show (⟨#[48]⟩ : ByteArray).size = 1 from rfl]; omega
      have hs2 : ¬ (9223372036854775807 < s.size + 1) := by omega
      have d1 : decide ((i : Int) < n) = true := by simp; omega
      go_wp2_with fail
      go_round
      case rel => exact ⟨i + 1, vint (by omega), by omega, by rw [HN.out], by first | trivial | rfl⟩
      case measure => simp [intOf]; omega
    · obtain rfl : i = n := by omega
      clear h hi hz
      go_wp2_with fail
      go_loopw [8, 9] (fun sv iv wr => ∃ j : Nat, iv = .int .i64 j ∧ j ≤ m ∧ sv = .string (tenS j) ∧ w1 = wr) (fun _ iv _ => m - (intOf iv).toNat)
      case atStart => refine ⟨0, ?_, ?_, ?_, ?_⟩ <;> first | trivial | rfl | omega
      case round =>
        obtain ⟨j, rfl, hj, rfl, rfl⟩ := hrel
        have hz := tenS_size j
        by_cases h : j < m
        · have HN := Lib.hid (tenS_next j)
          have HNN := Lib.hid (tenS_size (j + 1))
          generalize tenS j = s at *
          have hs : ¬ (9223372036854775807 < s.size + (⟨#[48]⟩ : ByteArray).size) := by rw [show (⟨#[48]⟩ : ByteArray).size = 1 from rfl]; omega
          have hs2 : ¬ (9223372036854775807 < s.size + 1) := by omega
          have d1 : decide ((j : Int) < m) = true := by simp; omega
          go_wp2_with fail
          go_round
          case rel => exact ⟨j + 1, vint (by omega), by omega, by rw [HN.out], by first | trivial | rfl⟩
          case measure => simp [intOf]; omega
        · obtain rfl : j = m := by omega
          clear h hj hz
          generalize tenS i = sn at *
          generalize tenS j = sm at *
          go_wp2_with fail
          with_reducible refine Calls.mono (CI.out _ _ _) ?_
          rintro e w3 ⟨rfl, hb⟩
          replace HT := Lib.hid (HT.out.next hb)
          replace BB := Lib.hid (Below.andThen BB.out hb)
          clear hb
          go_wp2_with fail
          refine calls_named fun v3 hq => ?_
          obtain ⟨bX, ebX⟩ : ∃ b, b = w3.heap.size := ⟨_, rfl⟩
          have X := Lib.hid (show Row v3 bX 23 [.string sn, .string ⟨#[49]⟩] from by rw [hq, ebX]; first | exact Row.new _ _ _ | exact ((Row.new w3 23 [.string ⟨#[]⟩, .string ⟨#[]⟩]).set 0 (.string sn)).set 1 (.string ⟨#[49]⟩))
          have hb : Below w3.heap.size w3 v3 := by rw [hq]; first | exact (Below.refl _ _).alloc (Nat.le_refl _) _ | exact (((Below.refl _ _).alloc (Nat.le_refl _) _).setCell (p := ⟨w3.heap.size, 0, none⟩) (Nat.le_refl _) _).setCell (p := ⟨w3.heap.size, 1, none⟩) (Nat.le_refl _) _
          replace HT := Lib.hid (HT.out.next hb)
          replace BB := Lib.hid (Below.andThen BB.out hb)
          rw [← ebX]
          clear hq hb ebX
          with_reducible refine Calls.mono (CI.out _ _ _) ?_
          rintro e w4 ⟨rfl, hb⟩
          replace HT := Lib.hid (HT.out.next hb)
          replace X := Lib.hid (X.out.next hb)
          replace BB := Lib.hid (Below.andThen BB.out hb)
          clear hb
          go_upto_region 16 with (fail)
          refine wp_named fun v4 hq => ?_
          obtain ⟨bY, ebY⟩ : ∃ b, b = w4.heap.size := ⟨_, rfl⟩
          have Y := Lib.hid (show Row v4 bY 23 [.string sm, .string ⟨#[49]⟩] from by rw [hq, ebY]; first | exact Row.new _ _ _ | exact ((Row.new w4 23 [.string ⟨#[]⟩, .string ⟨#[]⟩]).set 0 (.string sm)).set 1 (.string ⟨#[49]⟩))
          have hb : Below w4.heap.size w4 v4 := by rw [hq]; first | exact (Below.refl _ _).alloc (Nat.le_refl _) _ | exact (((Below.refl _ _).alloc (Nat.le_refl _) _).setCell (p := ⟨w4.heap.size, 0, none⟩) (Nat.le_refl _) _).setCell (p := ⟨w4.heap.size, 1, none⟩) (Nat.le_refl _) _
          replace HT := Lib.hid (HT.out.next hb)
          replace X := Lib.hid (X.out.next hb)
          replace BB := Lib.hid (Below.andThen BB.out hb)
          rw [← ebY]
          clear hq hb ebY
          obtain ⟨cX0, cX1⟩ := X.out.two
          have lX := X.out.lt
          obtain ⟨cY0, cY1⟩ := Y.out.two
          have lY := Y.out.lt
          go_wp2_with fail
          clear cX0 cX1 lX cY0 cY1 lY
          with_reducible refine Calls.mono (CM.out _ HT.out) ?_
          rintro e w5 ⟨rfl, hb⟩
          replace HT := Lib.hid (HT.out.next hb)
          replace X := Lib.hid (X.out.next hb)
          replace Y := Lib.hid (Y.out.next hb)
          replace BB := Lib.hid (Below.andThen BB.out hb)
          clear hb
          go_upto_region 17 with (fail)
          refine wp_named fun v5 hq => ?_
          obtain ⟨bZ, ebZ⟩ : ∃ b, b = w5.heap.size := ⟨_, rfl⟩
          have Z := Lib.hid (show Row v5 bZ 23 [.string q1, .string q2] from by rw [hq, ebZ]; first | exact Row.new _ _ _ | exact ((Row.new w5 23 [.string ⟨#[]⟩, .string ⟨#[]⟩]).set 0 (.string q1)).set 1 (.string q2))
          have hb : Below w5.heap.size w5 v5 := by rw [hq]; first | exact (Below.refl _ _).alloc (Nat.le_refl _) _ | exact (((Below.refl _ _).alloc (Nat.le_refl _) _).setCell (p := ⟨w5.heap.size, 0, none⟩) (Nat.le_refl _) _).setCell (p := ⟨w5.heap.size, 1, none⟩) (Nat.le_refl _) _
          replace HT := Lib.hid (HT.out.next hb)
          replace X := Lib.hid (X.out.next hb)
          replace Y := Lib.hid (Y.out.next hb)
          replace BB := Lib.hid (Below.andThen BB.out hb)
          rw [← ebZ]
          clear hq hb ebZ
          obtain ⟨cY0, cY1⟩ := Y.out.two
          have lY := Y.out.lt
          refine wp_region_late_float 5 [7] 6 7 _ (.cells #[.string ⟨#[]⟩, .string ⟨#[]⟩] 23) (by kernel_rfl) (by kernel_rfl) (fun dst _ _ _ _ h => by cases dst <;> exact h) (by kernel_rfl) (by kernel_rfl) rfl rfl (fun ρ w1 => by go_simp) v5.heap.size 0 (by simp) (fun WW hk hWW => ?_)
          simp only [List.take_succ_cons, List.take_zero, List.drop_succ_cons, List.drop_zero, List.cons_append, List.nil_append]
          repeat (go_big_quiet_step (first | (go_at_call 41; with_reducible exact Calls.kin (CI.out _ _ _)) | (go_at_call 45; with_reducible exact Calls.kin (CD.out _ ((HT.out.next hWW).next (Kin.below _))))))
          refine wpQuiet_nil ?_
          clear hk hWW
          intro w6 b6 hfb hfl hfo
          obtain ⟨ocb6, ofb6⟩ := block_cells hfo
          have osb6 := block_lt hfo
          have HFB := Lib.hid hfb
          have HFL := Lib.hid hfl
          have HFO := Lib.hid (show Row w6 b6 23 [.string ⟨#[]⟩, .string ⟨#[]⟩] from hfo)
          clear hfo hfb hfl
          simp only [Act.put, List.setIfInBounds_toArray, List.set_cons_zero, List.set_cons_succ]
          
          clear cY0 cY1 lY
          go_upto_region 18 with (fail)
          refine wp_named fun v6 hq => ?_
          have S := Lib.hid (show Row v6 b6 23 [.string ⟨#[49]⟩, .string sm] from by rw [hq]; exact (HFO.out.set 0 (.string ⟨#[49]⟩)).set 1 (.string sm))
          have hb : Below v5.heap.size v5 v6 := by rw [hq]; exact (HFB.out.setCell (p := ⟨b6, 0, none⟩) HFL.out _).setCell (p := ⟨b6, 1, none⟩) HFL.out _
          replace HT := Lib.hid (HT.out.next hb)
          replace X := Lib.hid (X.out.next hb)
          replace Y := Lib.hid (Y.out.next hb)
          replace Z := Lib.hid (Z.out.next hb)
          replace BB := Lib.hid (Below.andThen BB.out hb)
          clear hq hb HFO HFB HFL ocb6 ofb6 osb6
          obtain ⟨cX0, cX1⟩ := X.out.two
          have lX := X.out.lt
          obtain ⟨cS0, cS1⟩ := S.out.two
          have lS := S.out.lt
          go_wp2_with fail
          clear cX0 cX1 lX cS0 cS1 lS
          with_reducible refine Calls.mono (CA.out _ HT.out) ?_
          rintro e w7 ⟨rfl, hb⟩
          replace HT := Lib.hid (HT.out.next hb)
          replace X := Lib.hid (X.out.next hb)
          replace Y := Lib.hid (Y.out.next hb)
          replace Z := Lib.hid (Z.out.next hb)
          replace S := Lib.hid (S.out.next hb)
          replace BB := Lib.hid (Below.andThen BB.out hb)
          clear hb
          go_upto_region 19 with (fail)
          refine wp_named fun v7 hq => ?_
          obtain ⟨bU, ebU⟩ : ∃ b, b = w7.heap.size := ⟨_, rfl⟩
          have U := Lib.hid (show Row v7 bU 23 [.string s1, .string s2] from by rw [hq, ebU]; first | exact Row.new _ _ _ | exact ((Row.new w7 23 [.string ⟨#[]⟩, .string ⟨#[]⟩]).set 0 (.string s1)).set 1 (.string s2))
          have hb : Below w7.heap.size w7 v7 := by rw [hq]; first | exact (Below.refl _ _).alloc (Nat.le_refl _) _ | exact (((Below.refl _ _).alloc (Nat.le_refl _) _).setCell (p := ⟨w7.heap.size, 0, none⟩) (Nat.le_refl _) _).setCell (p := ⟨w7.heap.size, 1, none⟩) (Nat.le_refl _) _
          replace HT := Lib.hid (HT.out.next hb)
          replace X := Lib.hid (X.out.next hb)
          replace Y := Lib.hid (Y.out.next hb)
          replace Z := Lib.hid (Z.out.next hb)
          replace S := Lib.hid (S.out.next hb)
          replace BB := Lib.hid (Below.andThen BB.out hb)
          rw [← ebU]
          clear hq hb ebU
          clear U CM CD CA CI KN KM HS
          obtain ⟨cX0, cX1⟩ := X.out.two
          have lX := X.out.lt
          obtain ⟨cY0, cY1⟩ := Y.out.two
          have lY := Y.out.lt
          obtain ⟨cZ0, cZ1⟩ := Z.out.two
          have lZ := Z.out.lt
          obtain ⟨cS0, cS1⟩ := S.out.two
          have lS := S.out.lt
          rcases HF.out with ⟨d1, rfl, rfl⟩ | ⟨d1, rfl, rfl, rfl, rfl⟩
          · clear HF
            go_upto_region 22 with (fail)
            rcases HC.out with ⟨k1, k2, k3⟩ | ⟨k1, k2, k3⟩ | ⟨k1, k2, k3⟩ | ⟨k1, k2⟩
            · rcases Nat.eq_zero_or_pos i with hi0 | hi0
              · have o1 : decide ((i : Int) < j) = true := by rw [decide_eq_true_eq]; omega
                have o2 : decide ((j : Int) < i) = false := by rw [decide_eq_false_iff_not]; omega
                have o3 : decide ((i : Int) = 0) = true := by rw [decide_eq_true_eq]; omega
                have o4 : decide ((j : Int) = 0) = false := by rw [decide_eq_false_iff_not]; omega
                rw [if_pos k1] at C1
                rw [if_neg k3] at C2
                clear HC
                go_wp2_with fail
                with_reducible refine Calls.mono (C1.out _ HT.out) ?_
                rintro e w8 ⟨rfl, hb⟩
                replace HT := Lib.hid (HT.out.next hb)
                replace X := Lib.hid (X.out.next hb)
                replace S := Lib.hid (S.out.next hb)
                replace BB := Lib.hid (Below.andThen BB.out hb)
                clear cX0 cX1 lX cY0 cY1 lY cZ0 cZ1 lZ cS0 cS1 lS; obtain ⟨cX0, cX1⟩ := X.out.two; obtain ⟨cS0, cS1⟩ := S.out.two; have lX := X.out.lt; have lS := S.out.lt
                clear hb
                go_wp2_with fail
                with_reducible refine Calls.mono (C2.out _ HT.out) ?_
                rintro e w9 ⟨rfl, hb⟩
                replace HT := Lib.hid (HT.out.next hb)
                replace BB := Lib.hid (Below.andThen BB.out hb)
                clear hb
                go_wp2_with fail
                go_ret
                exact ⟨rfl, BB.out⟩
              · have o1 : decide ((i : Int) < j) = true := by rw [decide_eq_true_eq]; omega
                have o2 : decide ((j : Int) < i) = false := by rw [decide_eq_false_iff_not]; omega
                have o3 : decide ((i : Int) = 0) = false := by rw [decide_eq_false_iff_not]; omega
                rw [if_pos k1] at C1
                rw [if_neg k3] at C2
                clear HC
                go_wp2_with fail
                with_reducible refine Calls.mono (C1.out _ HT.out) ?_
                rintro e w8 ⟨rfl, hb⟩
                replace HT := Lib.hid (HT.out.next hb)
                replace X := Lib.hid (X.out.next hb)
                replace S := Lib.hid (S.out.next hb)
                replace BB := Lib.hid (Below.andThen BB.out hb)
                clear cX0 cX1 lX cY0 cY1 lY cZ0 cZ1 lZ cS0 cS1 lS; obtain ⟨cX0, cX1⟩ := X.out.two; obtain ⟨cS0, cS1⟩ := S.out.two; have lX := X.out.lt; have lS := S.out.lt
                clear hb
                go_wp2_with fail
                with_reducible refine Calls.mono (C2.out _ HT.out) ?_
                rintro e w9 ⟨rfl, hb⟩
                replace HT := Lib.hid (HT.out.next hb)
                replace BB := Lib.hid (Below.andThen BB.out hb)
                clear hb
                go_wp2_with fail
                go_ret
                exact ⟨rfl, BB.out⟩
            · rcases Nat.eq_zero_or_pos i with hi0 | hi0
              · exfalso; omega
              · have o1 : decide ((i : Int) < j) = false := by rw [decide_eq_false_iff_not]; omega
                have o2 : decide ((j : Int) < i) = true := by rw [decide_eq_true_eq]; omega
                have o3 : decide ((i : Int) = 0) = false := by rw [decide_eq_false_iff_not]; omega
                rw [if_neg k1, if_pos k2] at C1
                rw [if_neg k3] at C2
                clear HC
                go_wp2_with fail
                with_reducible refine Calls.mono (C1.out _ HT.out) ?_
                rintro e w8 ⟨rfl, hb⟩
                replace HT := Lib.hid (HT.out.next hb)
                replace X := Lib.hid (X.out.next hb)
                replace S := Lib.hid (S.out.next hb)
                replace BB := Lib.hid (Below.andThen BB.out hb)
                clear cX0 cX1 lX cY0 cY1 lY cZ0 cZ1 lZ cS0 cS1 lS; obtain ⟨cX0, cX1⟩ := X.out.two; obtain ⟨cS0, cS1⟩ := S.out.two; have lX := X.out.lt; have lS := S.out.lt
                clear hb
                go_wp2_with fail
                with_reducible refine Calls.mono (C2.out _ HT.out) ?_
                rintro e w9 ⟨rfl, hb⟩
                replace HT := Lib.hid (HT.out.next hb)
                replace BB := Lib.hid (Below.andThen BB.out hb)
                clear hb
                go_wp2_with fail
                go_ret
                exact ⟨rfl, BB.out⟩
            · rcases Nat.eq_zero_or_pos i with hi0 | hi0
              · exfalso; omega
              · have o1 : decide ((i : Int) < j) = false := by rw [decide_eq_false_iff_not]; omega
                have o2 : decide ((j : Int) < i) = false := by rw [decide_eq_false_iff_not]; omega
                have o3 : decide ((i : Int) = 0) = false := by rw [decide_eq_false_iff_not]; omega
                rw [if_neg k1, if_neg k2] at C1
                rw [if_neg k3] at C2
                clear HC
                go_wp2_with fail
                with_reducible refine Calls.mono (C1.out _ HT.out) ?_
                rintro e w8 ⟨rfl, hb⟩
                replace HT := Lib.hid (HT.out.next hb)
                replace X := Lib.hid (X.out.next hb)
                replace S := Lib.hid (S.out.next hb)
                replace BB := Lib.hid (Below.andThen BB.out hb)
                clear cX0 cX1 lX cY0 cY1 lY cZ0 cZ1 lZ cS0 cS1 lS; obtain ⟨cX0, cX1⟩ := X.out.two; obtain ⟨cS0, cS1⟩ := S.out.two; have lX := X.out.lt; have lS := S.out.lt
                clear hb
                go_wp2_with fail
                with_reducible refine Calls.mono (C2.out _ HT.out) ?_
                rintro e w9 ⟨rfl, hb⟩
                replace HT := Lib.hid (HT.out.next hb)
                replace BB := Lib.hid (Below.andThen BB.out hb)
                clear hb
                go_wp2_with fail
                go_ret
                exact ⟨rfl, BB.out⟩
            · have o1 : decide ((i : Int) < j) = false := by rw [decide_eq_false_iff_not]; omega
              have o2 : decide ((j : Int) < i) = false := by rw [decide_eq_false_iff_not]; omega
              have o3 : decide ((i : Int) = 0) = true := by rw [decide_eq_true_eq]; omega
              have o4 : decide ((j : Int) = 0) = true := by rw [decide_eq_true_eq]; omega
              rw [if_neg (by omega), if_neg (by omega)] at C1
              rw [if_pos (by omega)] at C2
              clear HC
              go_wp2_with fail
              with_reducible refine Calls.mono (C1.out _ HT.out) ?_
              rintro e w8 ⟨rfl, hb⟩
              replace HT := Lib.hid (HT.out.next hb)
              replace X := Lib.hid (X.out.next hb)
              replace S := Lib.hid (S.out.next hb)
              replace BB := Lib.hid (Below.andThen BB.out hb)
              clear cX0 cX1 lX cY0 cY1 lY cZ0 cZ1 lZ cS0 cS1 lS; obtain ⟨cX0, cX1⟩ := X.out.two; obtain ⟨cS0, cS1⟩ := S.out.two; have lX := X.out.lt; have lS := S.out.lt
              clear hb
              go_wp2_with fail
              with_reducible refine Calls.mono (C2.out _ HT.out) ?_
              rintro e w9 ⟨rfl, hb⟩
              replace HT := Lib.hid (HT.out.next hb)
              replace BB := Lib.hid (Below.andThen BB.out hb)
              clear hb
              go_wp2_with fail
              go_ret
              exact ⟨rfl, BB.out⟩
          · clear HF
            go_upto_region 22 with (fail)
            rcases HC.out with ⟨k1, k2, k3⟩ | ⟨k1, k2, k3⟩ | ⟨k1, k2, k3⟩ | ⟨k1, k2⟩
            · rcases Nat.eq_zero_or_pos i with hi0 | hi0
              · have o1 : decide ((i : Int) < j) = true := by rw [decide_eq_true_eq]; omega
                have o2 : decide ((j : Int) < i) = false := by rw [decide_eq_false_iff_not]; omega
                have o3 : decide ((i : Int) = 0) = true := by rw [decide_eq_true_eq]; omega
                have o4 : decide ((j : Int) = 0) = false := by rw [decide_eq_false_iff_not]; omega
                rw [if_pos k1] at C1
                rw [if_neg k3] at C2
                clear HC
                go_wp2_with fail
                with_reducible refine Calls.mono (C1.out _ HT.out) ?_
                rintro e w8 ⟨rfl, hb⟩
                replace HT := Lib.hid (HT.out.next hb)
                replace X := Lib.hid (X.out.next hb)
                replace S := Lib.hid (S.out.next hb)
                replace BB := Lib.hid (Below.andThen BB.out hb)
                clear cX0 cX1 lX cY0 cY1 lY cZ0 cZ1 lZ cS0 cS1 lS; obtain ⟨cX0, cX1⟩ := X.out.two; obtain ⟨cS0, cS1⟩ := S.out.two; have lX := X.out.lt; have lS := S.out.lt
                clear hb
                go_wp2_with fail
                with_reducible refine Calls.mono (C2.out _ HT.out) ?_
                rintro e w9 ⟨rfl, hb⟩
                replace HT := Lib.hid (HT.out.next hb)
                replace BB := Lib.hid (Below.andThen BB.out hb)
                clear hb
                go_wp2_with fail
                go_ret
                exact ⟨rfl, BB.out⟩
              · have o1 : decide ((i : Int) < j) = true := by rw [decide_eq_true_eq]; omega
                have o2 : decide ((j : Int) < i) = false := by rw [decide_eq_false_iff_not]; omega
                have o3 : decide ((i : Int) = 0) = false := by rw [decide_eq_false_iff_not]; omega
                rw [if_pos k1] at C1
                rw [if_neg k3] at C2
                clear HC
                go_wp2_with fail
                with_reducible refine Calls.mono (C1.out _ HT.out) ?_
                rintro e w8 ⟨rfl, hb⟩
                replace HT := Lib.hid (HT.out.next hb)
                replace X := Lib.hid (X.out.next hb)
                replace S := Lib.hid (S.out.next hb)
                replace BB := Lib.hid (Below.andThen BB.out hb)
                clear cX0 cX1 lX cY0 cY1 lY cZ0 cZ1 lZ cS0 cS1 lS; obtain ⟨cX0, cX1⟩ := X.out.two; obtain ⟨cS0, cS1⟩ := S.out.two; have lX := X.out.lt; have lS := S.out.lt
                clear hb
                go_wp2_with fail
                with_reducible refine Calls.mono (C2.out _ HT.out) ?_
                rintro e w9 ⟨rfl, hb⟩
                replace HT := Lib.hid (HT.out.next hb)
                replace BB := Lib.hid (Below.andThen BB.out hb)
                clear hb
                go_wp2_with fail
                go_ret
                exact ⟨rfl, BB.out⟩
            · rcases Nat.eq_zero_or_pos i with hi0 | hi0
              · exfalso; omega
              · have o1 : decide ((i : Int) < j) = false := by rw [decide_eq_false_iff_not]; omega
                have o2 : decide ((j : Int) < i) = true := by rw [decide_eq_true_eq]; omega
                have o3 : decide ((i : Int) = 0) = false := by rw [decide_eq_false_iff_not]; omega
                rw [if_neg k1, if_pos k2] at C1
                rw [if_neg k3] at C2
                clear HC
                go_wp2_with fail
                with_reducible refine Calls.mono (C1.out _ HT.out) ?_
                rintro e w8 ⟨rfl, hb⟩
                replace HT := Lib.hid (HT.out.next hb)
                replace X := Lib.hid (X.out.next hb)
                replace S := Lib.hid (S.out.next hb)
                replace BB := Lib.hid (Below.andThen BB.out hb)
                clear cX0 cX1 lX cY0 cY1 lY cZ0 cZ1 lZ cS0 cS1 lS; obtain ⟨cX0, cX1⟩ := X.out.two; obtain ⟨cS0, cS1⟩ := S.out.two; have lX := X.out.lt; have lS := S.out.lt
                clear hb
                go_wp2_with fail
                with_reducible refine Calls.mono (C2.out _ HT.out) ?_
                rintro e w9 ⟨rfl, hb⟩
                replace HT := Lib.hid (HT.out.next hb)
                replace BB := Lib.hid (Below.andThen BB.out hb)
                clear hb
                go_wp2_with fail
                go_ret
                exact ⟨rfl, BB.out⟩
            · rcases Nat.eq_zero_or_pos i with hi0 | hi0
              · exfalso; omega
              · have o1 : decide ((i : Int) < j) = false := by rw [decide_eq_false_iff_not]; omega
                have o2 : decide ((j : Int) < i) = false := by rw [decide_eq_false_iff_not]; omega
                have o3 : decide ((i : Int) = 0) = false := by rw [decide_eq_false_iff_not]; omega
                rw [if_neg k1, if_neg k2] at C1
                rw [if_neg k3] at C2
                clear HC
                go_wp2_with fail
                with_reducible refine Calls.mono (C1.out _ HT.out) ?_
                rintro e w8 ⟨rfl, hb⟩
                replace HT := Lib.hid (HT.out.next hb)
                replace X := Lib.hid (X.out.next hb)
                replace S := Lib.hid (S.out.next hb)
                replace BB := Lib.hid (Below.andThen BB.out hb)
                clear cX0 cX1 lX cY0 cY1 lY cZ0 cZ1 lZ cS0 cS1 lS; obtain ⟨cX0, cX1⟩ := X.out.two; obtain ⟨cS0, cS1⟩ := S.out.two; have lX := X.out.lt; have lS := S.out.lt
                clear hb
                go_wp2_with fail
                with_reducible refine Calls.mono (C2.out _ HT.out) ?_
                rintro e w9 ⟨rfl, hb⟩
                replace HT := Lib.hid (HT.out.next hb)
                replace BB := Lib.hid (Below.andThen BB.out hb)
                clear hb
                go_wp2_with fail
                go_ret
                exact ⟨rfl, BB.out⟩
            · have o1 : decide ((i : Int) < j) = false := by rw [decide_eq_false_iff_not]; omega
              have o2 : decide ((j : Int) < i) = false := by rw [decide_eq_false_iff_not]; omega
              have o3 : decide ((i : Int) = 0) = true := by rw [decide_eq_true_eq]; omega
              have o4 : decide ((j : Int) = 0) = true := by rw [decide_eq_true_eq]; omega
              rw [if_neg (by omega), if_neg (by omega)] at C1
              rw [if_pos (by omega)] at C2
              clear HC
              go_wp2_with fail
              with_reducible refine Calls.mono (C1.out _ HT.out) ?_
              rintro e w8 ⟨rfl, hb⟩
              replace HT := Lib.hid (HT.out.next hb)
              replace X := Lib.hid (X.out.next hb)
              replace S := Lib.hid (S.out.next hb)
              replace BB := Lib.hid (Below.andThen BB.out hb)
              clear cX0 cX1 lX cY0 cY1 lY cZ0 cZ1 lZ cS0 cS1 lS; obtain ⟨cX0, cX1⟩ := X.out.two; obtain ⟨cS0, cS1⟩ := S.out.two; have lX := X.out.lt; have lS := S.out.lt
              clear hb
              go_wp2_with fail
              with_reducible refine Calls.mono (C2.out _ HT.out) ?_
              rintro e w9 ⟨rfl, hb⟩
              replace HT := Lib.hid (HT.out.next hb)
              replace BB := Lib.hid (Below.andThen BB.out hb)
              clear hb
              go_wp2_with fail
              go_ret
              exact ⟨rfl, BB.out⟩
namespace rationalLimits
set_option maxRecDepth 100000 in
theorem contract (H : Type) (enc : TypeId × Value → H) (W : World) (base : Nat) (args : Array Value) (ds gs : List (DataW H)) (before : List MemPlace)
    (hval : ∀ (j : Nat) t v, Tryz.f10.params[j]? = some t → args[j]? = some v → Value.okWide Tryz.prog W .any base t v)
    (hW : DataW.Whole enc Tryz.prog Tryz.f10.params.toList Rows.rationalLimitsSpec.vars false W args.toList ds gs before) (hL : laidMetH Tryz.prog Rows.rationalLimitsRow.laid W) (hsh : W.ShapedOpen Tryz.prog) :
    Calls Tryz.prog 10 args W fun e W' => ∃ v, e = .returned v ∧ Rows.rationalLimitsSpec.post enc Tryz.prog Tryz.f10 false true false false W args v W' := by
  have hW' := hW
  obtain ⟨p, q, hA0, hV, rfl, hfz, hnd⟩ := hW
  have hA : DataW.TrodAll enc Tryz.prog W 0 (fun _ => true) true Tryz.f10.params.toList args.toList ds p := hA0
  rw [Tryz.params10] at hA hval
  obtain ⟨v0, vs0, d0, ds0, p0, q0, hargs, rfl, rfl, h0, r0⟩ := trodAll_cons hA
  obtain ⟨v1, vs1, d1, ds1, p1, q1, rfl, rfl, rfl, h1, r1⟩ := trodAll_cons r0
  obtain ⟨rfl, rfl, rfl⟩ := trodAll_nil r1
  obtain rfl : args = #[v0, v1] := by cases args; simp_all
  obtain ⟨a0, rfl, rfl, rfl, k0⟩ := open_int Tryz.underlying3 (hval 0 _ _ rfl rfl) h0
  obtain ⟨a1, rfl, rfl, rfl, k1⟩ := open_int Tryz.underlying3 (hval 1 _ _ rfl rfl) h1
  refine (rationalLimits_law a0 a1 W (rwT hL hsh) (bd_i64 k0) (bd_i64 k1)).mono fun e W' ⟨he, hb⟩ => ?_
  subst he
  obtain ⟨rfl, _⟩ := trodVars_none hV
  exact ⟨_, rfl, law_post laidOut (by kernel_rfl) rfl (by kernel_rfl) Tryz.underlying4 hW' rfl hb⟩

noncomputable def laidWorld (os : Os) : World := World.laidAll Tryz.prog os Rows.rationalLimitsRow.laid
def args0 : Array Value := #[.int .i64 0, .int .i64 0]
theorem laid_met (os : Os) : laidMet Tryz.prog Rows.rationalLimitsRow.laid ((laidWorld os).forCall (fun _ _ => 0) ⟨#[], args0, []⟩).memory :=
  laidMet_laidAll _ (by kernel_rfl) (by kernel_rfl)
theorem reads (os : Os) {H : Type} (enc : TypeId × Value → H) : ∃ places, DataW.whole enc Tryz.prog ((laidWorld os).forCall (fun _ _ => 0) ⟨#[], args0, []⟩).memory Tryz.f10.params.toList Rows.rationalLimitsSpec.vars false args0.toList 8 = some ([.lit (.int .i64 0), .lit (.int .i64 0)], [], places) :=
  ⟨[], by kernel_rfl⟩

set_option maxRecDepth 100000 in
theorem lifted (os : Os) (started : os.Started) (H : Type) (enc : TypeId × Value → H) (F : Stop.Interp) :
    ReturnsInHanded {} Tryz.checked os 10 .any ((OpenSpec.ofChange Rows.rationalLimitsSpec).preRow enc Tryz.prog Tryz.f10 Rows.rationalLimitsRow.domain false Rows.rationalLimitsRow.laid) (((OpenSpec.ofChange Rows.rationalLimitsSpec).at F).post enc Tryz.prog Tryz.f10 false true false false) := by
  obtain ⟨places, hx⟩ := reads os enc
  refine returnsInHanded_of_row (C := Tryz.checked) (s := OpenSpec.ofChange Rows.rationalLimitsSpec) own started (by kernel_rfl) Tryz.func10
    (witness_row_at (enc := enc) (C := Tryz.checked) false (laidWorld os) args0 (World.laidAll_os _ _ _) (by kernel_rfl) (by kernel_rfl) (by kernel_rfl)
      (OpenSpec.preRow_of_cond 8 hx (by kernel_rfl) (fun k hk => by cases hk) (by kernel_rfl) (laid_met os))) ?_
  intro W base args ds gs before hval hW _ _ _ hL hsh _
  exact contract H enc W base args ds gs before hval hW hL hsh

theorem said : Rows.RationalLimitsSaid :=
  OpenClaim.holds_of_cond 10 Tryz.f10 rfl rfl rfl rfl rfl rfl rfl ⟨rfl, rfl, rfl, rfl, rfl⟩ rfl rfl rfl rfl rfl (by kernel_rfl) Tryz.func10 (by kernel_rfl)
    (of_decide_eq_true (by kernel_rfl)) (by unfold Func.isWrapper; first | (rw [if_pos (by decide +kernel)]; kernel_rfl) | (rw [if_neg (by decide +kernel)]; exact ⟨rfl, rfl⟩))
    (fun os started H enc _ F => by rw [OpenClaim.pre_eq_preRow]; exact lifted os started H enc F)

theorem plain (f : FuncId) (fn : Func) (hf : Tryz.pinned.checked.prog.funcNamed "newswire/newswirelaw04.RationalLimits" = some f) (hfn : Tryz.pinned.checked.prog.funcs[f]? = some fn) :
    false = Tryz.pinned.checked.prog.looks [] ∧ ∀ (j : Nat) t, fn.params[j]? = some t → Tryz.pinned.checked.prog.wantsStandIn t = false := by
  obtain rfl : f = 10 := Option.some.inj ((show Tryz.prog.funcNamed "newswire/newswirelaw04.RationalLimits" = some 10 by kernel_rfl).symm.trans hf) |>.symm
  obtain rfl : fn = Tryz.f10 := (Option.some.inj (Tryz.func10.symm.trans hfn)).symm
  refine ⟨by kernel_rfl, fun j t ht => ?_⟩
  have all : (Tryz.f10.params.toList.all fun t => Tryz.prog.wantsStandIn t == false) = true := by kernel_rfl
  have := List.all_eq_true.1 all t (by rw [← Array.mem_def]; exact Array.mem_of_getElem? ht)
  exact (show Tryz.prog.wantsStandIn t = false by simpa using this)

/-- The statement. -/
theorem card : Rows.RationalLimitsCardSaid :=
  Claim7.holds_tied_plain_at .later [] _ _ _ _ said (fun _ h => by cases h) (by kernel_rfl) (fun _ h => by cases h) rationalLimits_row_tie rfl ⟨rfl, rfl⟩ (by kernel_rfl) rfl plain (by kernel_rfl)
end rationalLimits
end Go.Proofs.YtlehjmanlccncaaGreatDoor
