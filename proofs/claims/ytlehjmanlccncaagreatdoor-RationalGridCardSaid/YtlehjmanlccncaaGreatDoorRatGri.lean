/- For every input, RationalGrid returns true; the listed tables hold what the program's text lays. -/
import Derived.Test.YtlehjmanlccncaaGreatDoorRatQC
set_option linter.unusedVariables false
set_option linter.unusedSimpArgs false
namespace Go.Proofs.YtlehjmanlccncaaGreatDoor
open Go.RowKit Go.ChangeShapes Go.WideShapes Go.ChangeAt

theorem zero_tx : ((⟨#[48]⟩ : ByteArray), (⟨#[49]⟩ : ByteArray)) = Ra.tx (some (0, 1)) := by
  rw [(In.num_some num0).1, (In.num_some num1).1]
  rfl
theorem int_tx (q : Int) : Ra.tx (some (q, 1)) = (In.txt q, ⟨#[49]⟩) := by
  rw [(In.num_some num1).1]
  rfl
set_option maxRecDepth 100000 in
set_option maxHeartbeats 8000000 in
theorem rationalGrid_law (x0 x1 x2 x3 pl : Int) (w : World) (T : RW w) (h0 : -9223372036854775808 ≤ x0 ∧ x0 ≤ 9223372036854775807) (h1 : -9223372036854775808 ≤ x1 ∧ x1 ≤ 9223372036854775807) (h2 : -9223372036854775808 ≤ x2 ∧ x2 ≤ 9223372036854775807) (h3 : -9223372036854775808 ≤ x3 ∧ x3 ≤ 9223372036854775807)
    (hf : -9223372036854775808 ≤ pl ∧ pl ≤ 9223372036854775807) :
    Calls Tryz.prog 8 #[.agg #[.int .i64 x0, .int .i64 x1, .int .i64 x2, .int .i64 x3], .int .i64 pl] w fun r w' => r = .returned (.bool true) ∧ Below w.heap.size w w' := by
  have HT := Lib.hid T
  have HT0 := Lib.hid T
  have BB := Lib.hid (Below.refl w.heap.size w)
  have HS := Lib.hid sane_any
  have CI := Lib.hid is_any
  have CL := Lib.hid (fun W => Long_any x0 x1 x2 x3 W h0 h1 h2 h3)
  obtain ⟨k, ek, hk⟩ := pick_nat pl (n := 31) (by decide)
  have KF := Lib.hid (fun W => pick_r pl 31 W (by decide) hf.1 hf.2)
  rw [show pickZ pl 31 = (k : Int) from ek] at KF
  clear T h0 h1 h2 h3 hf ek
  go_enter Tryz.func8, Tryz.ntmps8
  go_upto_region 1 with (fail)
  refine wp_named fun w1 hq => ?_
  obtain ⟨bX, ebX⟩ : ∃ b, b = w.heap.size := ⟨_, rfl⟩
  have X := Lib.hid (show Row w1 bX 24 [.int .i64 x0, .int .i64 x1, .int .i64 x2, .int .i64 x3] from by rw [hq, ebX]; exact Row.new _ _ _)
  have hb : Below w.heap.size w w1 := by rw [hq]; exact (Below.refl _ _).alloc (Nat.le_refl _) _
  replace HT := Lib.hid (HT.out.next hb)
  replace BB := Lib.hid (Below.andThen BB.out hb)
  rw [← ebX]
  clear hq hb ebX
  go_wp2_with fail
  with_reducible refine Calls.mono (HS.out _ HT.out) ?_
  rintro e w2 ⟨rfl, hb⟩
  replace HT := Lib.hid (HT.out.next hb)
  replace X := Lib.hid (X.out.next hb)
  replace BB := Lib.hid (Below.andThen BB.out hb)
  clear hb
  go_upto_region 2 with (fail)
  have cX0 := (X.out.cell 0).trans (show _ = some (Value.int .i64 _) from rfl)
  have cX1 := (X.out.cell 1).trans (show _ = some (Value.int .i64 _) from rfl)
  have cX2 := (X.out.cell 2).trans (show _ = some (Value.int .i64 _) from rfl)
  have cX3 := (X.out.cell 3).trans (show _ = some (Value.int .i64 _) from rfl)
  have lX := X.out.lt
  go_wp2_with fail
  clear cX0 cX1 cX2 cX3 lX
  with_reducible refine Calls.mono (CL.out _) ?_
  rintro e w3 ⟨p, rfl, hp, hp1, hp2, hb⟩
  replace HT := Lib.hid (HT.out.next hb)
  replace BB := Lib.hid (Below.andThen BB.out hb)
  clear hb X CL HS
  have g : Ra.Gr p k := ⟨hp, hp1, hp2, by omega⟩
  have oD := g.okD
  have oU := g.okU
  have hk' : k ≤ 30 := by omega
  have CD := Lib.hid (fun W T => Down_q hp hk' g.down W T)
  have CU := Lib.hid (fun W T => Up_q hp hk' g.up W T)
  have CN := Lib.hid (fun W T => minus_q hp W T)
  have eN := g.neg.down
  rw [show ((-p.1, p.2) : Int × Int).1 * 10 ^ k / ((-p.1, p.2) : Int × Int).2 = -(p.1 * 10 ^ k / p.2 + Ra.up1 p k) from g.floor_neg, Ra.mk_neg] at eN
  have CDN := Lib.hid (fun W T => Down_q (Ra.neg_ok hp) hk' eN W T)
  have CNN := Lib.hid (fun W T => minus_q (Ra.neg_ok oU) W T)
  have CDB := Lib.hid (fun W T => Down_q oU hk' (Ra.grid_stays hk' g.quoU false) W T)
  have CUA := Lib.hid (fun W T => Up_q oD hk' (Ra.grid_stays hk' (Nat.lt_of_lt_of_le g.quo (Nat.pow_le_pow_right (by decide) (by decide))) true) W T)
  have CMU := Lib.hid (fun W T => Mul_q oD (Ra.ten_ok (n := k) (by omega)) g.steps W T)
  have hw := g.width
  have hbl := g.below
  have hab := g.above
  rw [← Ra.cmp_rat oD hp] at hbl
  rw [← Ra.cmp_rat oU hp] at hab
  rw [← ten_tx, int_tx] at CMU
  have h00 : k = 0 → tenS k = ⟨#[49]⟩ := fun h => by rw [h]; rfl
  by_cases hr : p.1 * 10 ^ k % p.2 = 0
  · rw [if_pos hr] at hbl hab hw
    have CW := Lib.hid (fun W T => Sub_q oU oD hw W T)
    have C1 := Lib.hid (fun W T => Cmp_q oD hp hbl W T)
    have C2 := Lib.hid (fun W T => Cmp_q oU hp hab W T)
    rw [← zero_tx] at CW
    dsimp only at CNN
    rw [Int.neg_neg] at CNN
    clear hbl hab hw hr eN oD oU g hp hp1 hp2 hk'
    rw [show ((Ra.mkR (p.1 * 10 ^ k / p.2 + Ra.up1 p k) (10 ^ k)).1, (Ra.mkR (p.1 * 10 ^ k / p.2 + Ra.up1 p k) (10 ^ k)).2) = Ra.mkR (p.1 * 10 ^ k / p.2 + Ra.up1 p k) (10 ^ k) from rfl] at CNN
    generalize In.txt (p.1 * 10 ^ k / p.2) = n1 at *
    obtain ⟨u1, u2, hu⟩ : ∃ u1 u2, Ra.tx (some (Ra.mkR (p.1 * 10 ^ k / p.2 + Ra.up1 p k) (10 ^ k))) = (u1, u2) := ⟨_, _, rfl⟩
    obtain ⟨a1, a2, ha⟩ : ∃ u1 u2, Ra.tx (some (Ra.mkR (p.1 * 10 ^ k / p.2) (10 ^ k))) = (u1, u2) := ⟨_, _, rfl⟩
    obtain ⟨r1, r2, hr⟩ : ∃ u1 u2, Ra.tx (some p) = (u1, u2) := ⟨_, _, rfl⟩
    obtain ⟨m1, m2, hm⟩ : ∃ u1 u2, Ra.tx (some (-p.1, p.2)) = (u1, u2) := ⟨_, _, rfl⟩
    obtain ⟨c1, c2, hc⟩ : ∃ u1 u2, Ra.tx (some (-(Ra.mkR (p.1 * 10 ^ k / p.2 + Ra.up1 p k) (10 ^ k)).1, (Ra.mkR (p.1 * 10 ^ k / p.2 + Ra.up1 p k) (10 ^ k)).2)) = (u1, u2) := ⟨_, _, rfl⟩
    rw [hr, ha] at CD
    rw [hr, hu] at CU
    rw [hr, hm] at CN
    rw [hm, hc] at CDN
    rw [hc, hu] at CNN
    rw [hu] at CDB
    rw [ha] at CUA CMU
    rw [hu, ha] at CW
    rw [ha, hr] at C1
    rw [hu, hr] at C2
    rw [hr]
    clear hu ha hr hm hc
    go_wp2_with fail
    refine calls_named fun v3 hq => ?_
    obtain ⟨bR, ebR⟩ : ∃ b, b = w3.heap.size := ⟨_, rfl⟩
    have R := Lib.hid (show Row v3 bR 23 [.string r1, .string r2] from by rw [hq, ebR]; first | exact Row.new _ _ _ | exact ((Row.new w3 23 [.string ⟨#[]⟩, .string ⟨#[]⟩]).set 0 (.string r1)).set 1 (.string r2))
    have hb : Below w3.heap.size w3 v3 := by rw [hq]; first | exact (Below.refl _ _).alloc (Nat.le_refl _) _ | exact (((Below.refl _ _).alloc (Nat.le_refl _) _).setCell (p := ⟨w3.heap.size, 0, none⟩) (Nat.le_refl _) _).setCell (p := ⟨w3.heap.size, 1, none⟩) (Nat.le_refl _) _
    replace HT := Lib.hid (HT.out.next hb)
    replace BB := Lib.hid (Below.andThen BB.out hb)
    rw [← ebR]
    clear hq hb ebR
    with_reducible refine Calls.mono (KF.out _) ?_
    rintro e w' ⟨rfl, rfl⟩
    go_wp2_with fail
    go_loopw [7, 8] (fun sv iv wr => ∃ i : Nat, iv = .int .i64 i ∧ i ≤ k ∧ sv = .string (tenS i) ∧ v3 = wr) (fun _ iv _ => k - (intOf iv).toNat)
    case atStart => refine ⟨0, ?_, ?_, ?_, ?_⟩ <;> first | trivial | rfl | omega
    case round =>
      obtain ⟨i, rfl, hi, rfl, rfl⟩ := hrel
      have hz := tenS_size i
      by_cases h : i < k
      · have HN := Lib.hid (tenS_next i)
        have HNN := Lib.hid (tenS_size (i + 1))
        clear CD CU CN CDN CNN CDB CUA CMU CW C1 C2 h00
        generalize tenS i = s at *
        have hs : ¬ (9223372036854775807 < s.size + (⟨#[48]⟩ : ByteArray).size) := by rw [show (⟨#[48]⟩ : ByteArray).size = 1 from rfl]; omega
        have hs2 : ¬ (9223372036854775807 < s.size + 1) := by omega
        have d1 : decide ((i : Int) < k) = true := by simp; omega
        go_wp2_with fail
        go_round
        case rel => exact ⟨i + 1, vint (by omega), by omega, by rw [HN.out], by first | trivial | rfl⟩
        case measure => simp [intOf]; omega
      · obtain rfl : i = k := by omega
        clear h hi hz
        have H00 := Lib.hid h00
        clear h00
        generalize tenS i = t at *
        go_upto_region 9 with (fail)
        obtain ⟨cR0, cR1⟩ := R.out.two
        have lR := R.out.lt
        go_wp2_with fail
        clear cR0 cR1 lR
        with_reducible refine Calls.mono (CD.out _ HT.out) ?_
        rintro e w4 ⟨rfl, hb⟩
        replace HT := Lib.hid (HT.out.next hb)
        replace R := Lib.hid (R.out.next hb)
        replace BB := Lib.hid (Below.andThen BB.out hb)
        clear hb
        go_upto_region 10 with (fail)
        refine wp_named fun v4 hq => ?_
        obtain ⟨bA, ebA⟩ : ∃ b, b = w4.heap.size := ⟨_, rfl⟩
        have A := Lib.hid (show Row v4 bA 23 [.string a1, .string a2] from by rw [hq, ebA]; first | exact Row.new _ _ _ | exact ((Row.new w4 23 [.string ⟨#[]⟩, .string ⟨#[]⟩]).set 0 (.string a1)).set 1 (.string a2))
        have hb : Below w4.heap.size w4 v4 := by rw [hq]; first | exact (Below.refl _ _).alloc (Nat.le_refl _) _ | exact (((Below.refl _ _).alloc (Nat.le_refl _) _).setCell (p := ⟨w4.heap.size, 0, none⟩) (Nat.le_refl _) _).setCell (p := ⟨w4.heap.size, 1, none⟩) (Nat.le_refl _) _
        replace HT := Lib.hid (HT.out.next hb)
        replace R := Lib.hid (R.out.next hb)
        replace BB := Lib.hid (Below.andThen BB.out hb)
        rw [← ebA]
        clear hq hb ebA
        obtain ⟨cR0, cR1⟩ := R.out.two
        have lR := R.out.lt
        go_wp2_with fail
        clear cR0 cR1 lR
        with_reducible refine Calls.mono (CU.out _ HT.out) ?_
        rintro e w5 ⟨rfl, hb⟩
        replace HT := Lib.hid (HT.out.next hb)
        replace R := Lib.hid (R.out.next hb)
        replace A := Lib.hid (A.out.next hb)
        replace BB := Lib.hid (Below.andThen BB.out hb)
        clear hb
        go_upto_region 11 with (fail)
        refine wp_named fun v5 hq => ?_
        obtain ⟨bB, ebB⟩ : ∃ b, b = w5.heap.size := ⟨_, rfl⟩
        have B := Lib.hid (show Row v5 bB 23 [.string u1, .string u2] from by rw [hq, ebB]; first | exact Row.new _ _ _ | exact ((Row.new w5 23 [.string ⟨#[]⟩, .string ⟨#[]⟩]).set 0 (.string u1)).set 1 (.string u2))
        have hb : Below w5.heap.size w5 v5 := by rw [hq]; first | exact (Below.refl _ _).alloc (Nat.le_refl _) _ | exact (((Below.refl _ _).alloc (Nat.le_refl _) _).setCell (p := ⟨w5.heap.size, 0, none⟩) (Nat.le_refl _) _).setCell (p := ⟨w5.heap.size, 1, none⟩) (Nat.le_refl _) _
        replace HT := Lib.hid (HT.out.next hb)
        replace R := Lib.hid (R.out.next hb)
        replace A := Lib.hid (A.out.next hb)
        replace BB := Lib.hid (Below.andThen BB.out hb)
        rw [← ebB]
        clear hq hb ebB
        obtain ⟨cR0, cR1⟩ := R.out.two
        have lR := R.out.lt
        go_wp2_with fail
        clear cR0 cR1 lR
        with_reducible refine Calls.mono (CN.out _ HT.out) ?_
        rintro e w6 ⟨rfl, hb⟩
        replace HT := Lib.hid (HT.out.next hb)
        replace R := Lib.hid (R.out.next hb)
        replace A := Lib.hid (A.out.next hb)
        replace B := Lib.hid (B.out.next hb)
        replace BB := Lib.hid (Below.andThen BB.out hb)
        clear hb
        go_wp2_with fail
        with_reducible refine Calls.mono (CDN.out _ HT.out) ?_
        rintro e w7 ⟨rfl, hb⟩
        replace HT := Lib.hid (HT.out.next hb)
        replace R := Lib.hid (R.out.next hb)
        replace A := Lib.hid (A.out.next hb)
        replace B := Lib.hid (B.out.next hb)
        replace BB := Lib.hid (Below.andThen BB.out hb)
        clear hb
        go_upto_region 12 with (fail)
        refine wp_named fun v7 hq => ?_
        obtain ⟨bC, ebC⟩ : ∃ b, b = w7.heap.size := ⟨_, rfl⟩
        have C := Lib.hid (show Row v7 bC 23 [.string c1, .string c2] from by rw [hq, ebC]; first | exact Row.new _ _ _ | exact ((Row.new w7 23 [.string ⟨#[]⟩, .string ⟨#[]⟩]).set 0 (.string c1)).set 1 (.string c2))
        have hb : Below w7.heap.size w7 v7 := by rw [hq]; first | exact (Below.refl _ _).alloc (Nat.le_refl _) _ | exact (((Below.refl _ _).alloc (Nat.le_refl _) _).setCell (p := ⟨w7.heap.size, 0, none⟩) (Nat.le_refl _) _).setCell (p := ⟨w7.heap.size, 1, none⟩) (Nat.le_refl _) _
        replace HT := Lib.hid (HT.out.next hb)
        replace R := Lib.hid (R.out.next hb)
        replace A := Lib.hid (A.out.next hb)
        replace B := Lib.hid (B.out.next hb)
        replace BB := Lib.hid (Below.andThen BB.out hb)
        rw [← ebC]
        clear hq hb ebC
        obtain ⟨cR0, cR1⟩ := R.out.two
        have lR := R.out.lt
        obtain ⟨cA0, cA1⟩ := A.out.two
        have lA := A.out.lt
        obtain ⟨cB0, cB1⟩ := B.out.two
        have lB := B.out.lt
        obtain ⟨cC0, cC1⟩ := C.out.two
        have lC := C.out.lt
        refine wp_region_kin (by kernel_rfl) (by kernel_rfl) v7.heap.size 0 (by simp) (fun hk => ?_)
        repeat (go_big_quiet_step (first | (go_at_call 42; first | with_reducible exact Calls.kin (CNN.out _ (HT.out.next (Kin.below _)))) | (go_at_call 20; first | with_reducible exact Calls.kin (C1.out _ (HT.out.next (Kin.below _))) | with_reducible exact Calls.kin (C2.out _ (HT.out.next (Kin.below _))))))
        refine wpQuiet_nil ?_
        clear hk
        intro w8 hb
        replace HT := Lib.hid (HT.out.next hb)
        replace R := Lib.hid (R.out.next hb)
        replace A := Lib.hid (A.out.next hb)
        replace B := Lib.hid (B.out.next hb)
        replace BB := Lib.hid (Below.andThen BB.out hb)
        clear hb
        clear cR0 cR1 lR cA0 cA1 lA cB0 cB1 lB cC0 cC1 lC
        go_upto_region 14 with (fail)
        obtain ⟨cB0, cB1⟩ := B.out.two
        have lB := B.out.lt
        go_wp2_with fail
        clear cB0 cB1 lB
        with_reducible refine Calls.mono (CDB.out _ HT.out) ?_
        rintro e w9 ⟨rfl, hb⟩
        replace HT := Lib.hid (HT.out.next hb)
        replace R := Lib.hid (R.out.next hb)
        replace A := Lib.hid (A.out.next hb)
        replace B := Lib.hid (B.out.next hb)
        replace BB := Lib.hid (Below.andThen BB.out hb)
        clear hb
        go_upto_region 15 with (fail)
        refine wp_named fun v9 hq => ?_
        obtain ⟨bG, ebG⟩ : ∃ b, b = w9.heap.size := ⟨_, rfl⟩
        have G := Lib.hid (show Row v9 bG 23 [.string u1, .string u2] from by rw [hq, ebG]; first | exact Row.new _ _ _ | exact ((Row.new w9 23 [.string ⟨#[]⟩, .string ⟨#[]⟩]).set 0 (.string u1)).set 1 (.string u2))
        have hb : Below w9.heap.size w9 v9 := by rw [hq]; first | exact (Below.refl _ _).alloc (Nat.le_refl _) _ | exact (((Below.refl _ _).alloc (Nat.le_refl _) _).setCell (p := ⟨w9.heap.size, 0, none⟩) (Nat.le_refl _) _).setCell (p := ⟨w9.heap.size, 1, none⟩) (Nat.le_refl _) _
        replace HT := Lib.hid (HT.out.next hb)
        replace R := Lib.hid (R.out.next hb)
        replace A := Lib.hid (A.out.next hb)
        replace B := Lib.hid (B.out.next hb)
        replace BB := Lib.hid (Below.andThen BB.out hb)
        rw [← ebG]
        clear hq hb ebG
        obtain ⟨cA0, cA1⟩ := A.out.two
        have lA := A.out.lt
        go_wp2_with fail
        clear cA0 cA1 lA
        with_reducible refine Calls.mono (CUA.out _ HT.out) ?_
        rintro e w10 ⟨rfl, hb⟩
        replace HT := Lib.hid (HT.out.next hb)
        replace R := Lib.hid (R.out.next hb)
        replace A := Lib.hid (A.out.next hb)
        replace B := Lib.hid (B.out.next hb)
        replace G := Lib.hid (G.out.next hb)
        replace BB := Lib.hid (Below.andThen BB.out hb)
        clear hb
        go_upto_region 16 with (fail)
        refine wp_named fun v10 hq => ?_
        obtain ⟨bH, ebH⟩ : ∃ b, b = w10.heap.size := ⟨_, rfl⟩
        have H := Lib.hid (show Row v10 bH 23 [.string a1, .string a2] from by rw [hq, ebH]; first | exact Row.new _ _ _ | exact ((Row.new w10 23 [.string ⟨#[]⟩, .string ⟨#[]⟩]).set 0 (.string a1)).set 1 (.string a2))
        have hb : Below w10.heap.size w10 v10 := by rw [hq]; first | exact (Below.refl _ _).alloc (Nat.le_refl _) _ | exact (((Below.refl _ _).alloc (Nat.le_refl _) _).setCell (p := ⟨w10.heap.size, 0, none⟩) (Nat.le_refl _) _).setCell (p := ⟨w10.heap.size, 1, none⟩) (Nat.le_refl _) _
        replace HT := Lib.hid (HT.out.next hb)
        replace R := Lib.hid (R.out.next hb)
        replace A := Lib.hid (A.out.next hb)
        replace B := Lib.hid (B.out.next hb)
        replace G := Lib.hid (G.out.next hb)
        replace BB := Lib.hid (Below.andThen BB.out hb)
        rw [← ebH]
        clear hq hb ebH
        obtain ⟨cA0, cA1⟩ := A.out.two
        have lA := A.out.lt
        refine wp_region_late_float 6 [8] 7 8 _ (.cells #[.string ⟨#[]⟩, .string ⟨#[]⟩] 23) (by kernel_rfl) (by kernel_rfl) (fun dst _ _ _ _ h => by cases dst <;> exact h) (by kernel_rfl) (by kernel_rfl) rfl rfl (fun ρ w1 => by go_simp) v10.heap.size 0 (by simp) (fun WW hk hWW => ?_)
        simp only [List.take_succ_cons, List.take_zero, List.drop_succ_cons, List.drop_zero, List.cons_append, List.nil_append]
        repeat (go_big_quiet_step (first | (go_at_call 41; first | with_reducible exact Calls.kin (CI.out _ _ _)) | (go_at_call 39; first | with_reducible exact Calls.kin (CMU.out _ ((HT.out.next hWW).next (Kin.below _))))))
        refine wpQuiet_nil ?_
        clear hk hWW
        intro w11 b11 hfb hfl hfo
        obtain ⟨ocb11, ofb11⟩ := block_cells hfo
        have osb11 := block_lt hfo
        have HFB := Lib.hid hfb
        have HFL := Lib.hid hfl
        have HFO := Lib.hid (show Row w11 b11 23 [.string ⟨#[]⟩, .string ⟨#[]⟩] from hfo)
        clear hfo hfb hfl
        simp only [Act.put, List.setIfInBounds_toArray, List.set_cons_zero, List.set_cons_succ]
        
        clear cA0 cA1 lA
        go_upto_region 17 with (fail)
        refine wp_named fun v11 hq => ?_
        have N := Lib.hid (show Row v11 b11 23 [.string n1, .string ⟨#[49]⟩] from by rw [hq]; exact (HFO.out.set 0 (.string n1)).set 1 (.string ⟨#[49]⟩))
        have hb : Below v10.heap.size v10 v11 := by rw [hq]; exact (HFB.out.setCell (p := ⟨b11, 0, none⟩) HFL.out _).setCell (p := ⟨b11, 1, none⟩) HFL.out _
        replace HT := Lib.hid (HT.out.next hb)
        replace R := Lib.hid (R.out.next hb)
        replace A := Lib.hid (A.out.next hb)
        replace B := Lib.hid (B.out.next hb)
        replace G := Lib.hid (G.out.next hb)
        replace H := Lib.hid (H.out.next hb)
        replace BB := Lib.hid (Below.andThen BB.out hb)
        clear hq hb HFO HFB HFL ocb11 ofb11 osb11
        obtain ⟨cA0, cA1⟩ := A.out.two
        have lA := A.out.lt
        obtain ⟨cB0, cB1⟩ := B.out.two
        have lB := B.out.lt
        go_wp2_with fail
        clear cA0 cA1 lA cB0 cB1 lB
        with_reducible refine Calls.mono (CW.out _ HT.out) ?_
        rintro e w12 ⟨rfl, hb⟩
        replace HT := Lib.hid (HT.out.next hb)
        replace R := Lib.hid (R.out.next hb)
        replace A := Lib.hid (A.out.next hb)
        replace B := Lib.hid (B.out.next hb)
        replace G := Lib.hid (G.out.next hb)
        replace H := Lib.hid (H.out.next hb)
        replace N := Lib.hid (N.out.next hb)
        replace BB := Lib.hid (Below.andThen BB.out hb)
        clear hb
        go_upto_region 18 with (fail)
        refine wp_named fun v12 hq => ?_
        obtain ⟨bD, ebD⟩ : ∃ b, b = w12.heap.size := ⟨_, rfl⟩
        have D := Lib.hid (show Row v12 bD 23 [.string ⟨#[48]⟩, .string ⟨#[49]⟩] from by rw [hq, ebD]; first | exact Row.new _ _ _ | exact ((Row.new w12 23 [.string ⟨#[]⟩, .string ⟨#[]⟩]).set 0 (.string ⟨#[48]⟩)).set 1 (.string ⟨#[49]⟩))
        have hb : Below w12.heap.size w12 v12 := by rw [hq]; first | exact (Below.refl _ _).alloc (Nat.le_refl _) _ | exact (((Below.refl _ _).alloc (Nat.le_refl _) _).setCell (p := ⟨w12.heap.size, 0, none⟩) (Nat.le_refl _) _).setCell (p := ⟨w12.heap.size, 1, none⟩) (Nat.le_refl _) _
        replace HT := Lib.hid (HT.out.next hb)
        replace R := Lib.hid (R.out.next hb)
        replace A := Lib.hid (A.out.next hb)
        replace B := Lib.hid (B.out.next hb)
        replace G := Lib.hid (G.out.next hb)
        replace H := Lib.hid (H.out.next hb)
        replace N := Lib.hid (N.out.next hb)
        replace BB := Lib.hid (Below.andThen BB.out hb)
        rw [← ebD]
        clear hq hb ebD
        obtain ⟨cA0, cA1⟩ := A.out.two
        have lA := A.out.lt
        obtain ⟨cR0, cR1⟩ := R.out.two
        have lR := R.out.lt
        go_wp2_with fail
        clear cA0 cA1 lA cR0 cR1 lR
        with_reducible refine Calls.mono (C1.out _ HT.out) ?_
        rintro e w13 ⟨rfl, hb⟩
        replace HT := Lib.hid (HT.out.next hb)
        replace R := Lib.hid (R.out.next hb)
        replace A := Lib.hid (A.out.next hb)
        replace B := Lib.hid (B.out.next hb)
        replace G := Lib.hid (G.out.next hb)
        replace H := Lib.hid (H.out.next hb)
        replace N := Lib.hid (N.out.next hb)
        replace D := Lib.hid (D.out.next hb)
        replace BB := Lib.hid (Below.andThen BB.out hb)
        clear hb
        go_wp2_with fail
        with_reducible refine Calls.mono (CI.out _ _ _) ?_
        rintro e w14 ⟨rfl, hb⟩
        replace HT := Lib.hid (HT.out.next hb)
        replace R := Lib.hid (R.out.next hb)
        replace A := Lib.hid (A.out.next hb)
        replace B := Lib.hid (B.out.next hb)
        replace G := Lib.hid (G.out.next hb)
        replace H := Lib.hid (H.out.next hb)
        replace N := Lib.hid (N.out.next hb)
        replace D := Lib.hid (D.out.next hb)
        replace BB := Lib.hid (Below.andThen BB.out hb)
        clear hb
        go_upto_region 20 with (fail)
        refine wp_named fun v14 hq => ?_
        obtain ⟨bW, ebW⟩ : ∃ b, b = w14.heap.size := ⟨_, rfl⟩
        have NE := Lib.hid (show bR ≠ bW ∧ bA ≠ bW ∧ bB ≠ bW ∧ bG ≠ bW ∧ bH ≠ bW ∧ b11 ≠ bW ∧ bD ≠ bW from by rw [ebW]; exact ⟨Nat.ne_of_lt R.out.lt, Nat.ne_of_lt A.out.lt, Nat.ne_of_lt B.out.lt, Nat.ne_of_lt G.out.lt, Nat.ne_of_lt H.out.lt, Nat.ne_of_lt N.out.lt, Nat.ne_of_lt D.out.lt⟩)
        have HLW := Lib.hid (show w.heap.size ≤ bW from by rw [ebW]; exact BB.out.size)
        have W := Lib.hid (show Row v14 bW 23 [.string ⟨#[49]⟩, .string t] from by rw [hq, ebW]; first | exact Row.new _ _ _ | exact ((Row.new w14 23 [.string ⟨#[]⟩, .string ⟨#[]⟩]).set 0 (.string ⟨#[49]⟩)).set 1 (.string t))
        have hb : Below w14.heap.size w14 v14 := by rw [hq]; first | exact (Below.refl _ _).alloc (Nat.le_refl _) _ | exact (((Below.refl _ _).alloc (Nat.le_refl _) _).setCell (p := ⟨w14.heap.size, 0, none⟩) (Nat.le_refl _) _).setCell (p := ⟨w14.heap.size, 1, none⟩) (Nat.le_refl _) _
        replace HT := Lib.hid (HT.out.next hb)
        replace R := Lib.hid (R.out.next hb)
        replace A := Lib.hid (A.out.next hb)
        replace B := Lib.hid (B.out.next hb)
        replace G := Lib.hid (G.out.next hb)
        replace H := Lib.hid (H.out.next hb)
        replace N := Lib.hid (N.out.next hb)
        replace D := Lib.hid (D.out.next hb)
        replace BB := Lib.hid (Below.andThen BB.out hb)
        rw [← ebW]
        clear hq hb ebW
        obtain ⟨bN, ebN⟩ : ∃ b, b = b11 := ⟨_, rfl⟩
        rw [← ebN] at N NE ⊢
        clear ebN
        clear CD CU CN CDN CNN CDB CUA CMU CW C1 KF
        by_cases hk0 : i = 0
        · have K0 := Lib.hid (H00.out hk0)
          have d0 : decide ((i : Int) = 0) = true := by rw [decide_eq_true_eq]; omega
          have d1 : ((i : Int) == 0) = true := d0
          clear hk0
          have hT := K0.out
          clear K0 H00
          subst hT
          go_wp2_with fail
          with_reducible refine Calls.mono (CI.out _ _ _) ?_
          rintro e w15 ⟨rfl, hb⟩
          replace R := Lib.hid (R.out.next hb)
          replace A := Lib.hid (A.out.next hb)
          replace B := Lib.hid (B.out.next hb)
          replace G := Lib.hid (G.out.next hb)
          replace H := Lib.hid (H.out.next hb)
          replace N := Lib.hid (N.out.next hb)
          replace D := Lib.hid (D.out.next hb)
          replace W := Lib.hid (W.out.next hb)
          replace BB := Lib.hid (Below.andThen BB.out hb)
          clear hb
          obtain ⟨cW0, cW1⟩ := W.out.two
          have lW := W.out.lt
          have fW0 := W.out.frozen 0
          have fW1 := W.out.frozen 1
          go_upto_region 22 with (fail)
          refine wp_named fun v15 hq => ?_
          replace R := Lib.hid (show Row v15 bR 23 [_, _] from by rw [hq]; exact (R.out.other NE.out.1 _ _).other NE.out.1 _ _)
          replace A := Lib.hid (show Row v15 bA 23 [_, _] from by rw [hq]; exact (A.out.other NE.out.2.1 _ _).other NE.out.2.1 _ _)
          replace B := Lib.hid (show Row v15 bB 23 [_, _] from by rw [hq]; exact (B.out.other NE.out.2.2.1 _ _).other NE.out.2.2.1 _ _)
          replace G := Lib.hid (show Row v15 bG 23 [_, _] from by rw [hq]; exact (G.out.other NE.out.2.2.2.1 _ _).other NE.out.2.2.2.1 _ _)
          replace H := Lib.hid (show Row v15 bH 23 [_, _] from by rw [hq]; exact (H.out.other NE.out.2.2.2.2.1 _ _).other NE.out.2.2.2.2.1 _ _)
          replace N := Lib.hid (show Row v15 bN 23 [_, _] from by rw [hq]; exact (N.out.other NE.out.2.2.2.2.2.1 _ _).other NE.out.2.2.2.2.2.1 _ _)
          replace D := Lib.hid (show Row v15 bD 23 [_, _] from by rw [hq]; exact (D.out.other NE.out.2.2.2.2.2.2 _ _).other NE.out.2.2.2.2.2.2 _ _)
          replace W := Lib.hid (show Row v15 bW 23 [.string ⟨#[49]⟩, .string ⟨#[49]⟩] from by rw [hq]; exact (W.out.set 0 (.string ⟨#[49]⟩)).set 1 (.string ⟨#[49]⟩))
          replace BB := Lib.hid (show Below w.heap.size w v15 from by rw [hq]; exact (BB.out.setCell (p := ⟨bW, 0, none⟩) HLW.out _).setCell (p := ⟨bW, 1, none⟩) HLW.out _)
          clear hq cW0 cW1 lW fW0 fW1 HT
          have HT := Lib.hid (HT0.out.next BB.out)
          go_wp2_with fail
          with_reducible refine Calls.mono (CI.out _ _ _) ?_
          rintro e w16 ⟨rfl, hb⟩
          replace R := Lib.hid (R.out.next hb)
          replace A := Lib.hid (A.out.next hb)
          replace B := Lib.hid (B.out.next hb)
          replace G := Lib.hid (G.out.next hb)
          replace H := Lib.hid (H.out.next hb)
          replace N := Lib.hid (N.out.next hb)
          replace D := Lib.hid (D.out.next hb)
          replace W := Lib.hid (W.out.next hb)
          replace BB := Lib.hid (Below.andThen BB.out hb)
          clear hb
          obtain ⟨cW0, cW1⟩ := W.out.two
          have lW := W.out.lt
          have fW0 := W.out.frozen 0
          have fW1 := W.out.frozen 1
          go_upto_region 24 with (fail)
          refine wp_named fun v16 hq => ?_
          replace R := Lib.hid (show Row v16 bR 23 [_, _] from by rw [hq]; exact (R.out.other NE.out.1 _ _).other NE.out.1 _ _)
          replace A := Lib.hid (show Row v16 bA 23 [_, _] from by rw [hq]; exact (A.out.other NE.out.2.1 _ _).other NE.out.2.1 _ _)
          replace B := Lib.hid (show Row v16 bB 23 [_, _] from by rw [hq]; exact (B.out.other NE.out.2.2.1 _ _).other NE.out.2.2.1 _ _)
          replace G := Lib.hid (show Row v16 bG 23 [_, _] from by rw [hq]; exact (G.out.other NE.out.2.2.2.1 _ _).other NE.out.2.2.2.1 _ _)
          replace H := Lib.hid (show Row v16 bH 23 [_, _] from by rw [hq]; exact (H.out.other NE.out.2.2.2.2.1 _ _).other NE.out.2.2.2.2.1 _ _)
          replace N := Lib.hid (show Row v16 bN 23 [_, _] from by rw [hq]; exact (N.out.other NE.out.2.2.2.2.2.1 _ _).other NE.out.2.2.2.2.2.1 _ _)
          replace D := Lib.hid (show Row v16 bD 23 [_, _] from by rw [hq]; exact (D.out.other NE.out.2.2.2.2.2.2 _ _).other NE.out.2.2.2.2.2.2 _ _)
          replace W := Lib.hid (show Row v16 bW 23 [.string ⟨#[48]⟩, .string ⟨#[49]⟩] from by rw [hq]; exact (W.out.set 0 (.string ⟨#[48]⟩)).set 1 (.string ⟨#[49]⟩))
          replace BB := Lib.hid (show Below w.heap.size w v16 from by rw [hq]; exact (BB.out.setCell (p := ⟨bW, 0, none⟩) HLW.out _).setCell (p := ⟨bW, 1, none⟩) HLW.out _)
          clear hq cW0 cW1 lW fW0 fW1 HT
          have HT := Lib.hid (HT0.out.next BB.out)
          obtain ⟨cR0, cR1⟩ := R.out.two
          have lR := R.out.lt
          obtain ⟨cA0, cA1⟩ := A.out.two
          have lA := A.out.lt
          obtain ⟨cB0, cB1⟩ := B.out.two
          have lB := B.out.lt
          obtain ⟨cG0, cG1⟩ := G.out.two
          have lG := G.out.lt
          obtain ⟨cH0, cH1⟩ := H.out.two
          have lH := H.out.lt
          obtain ⟨cN0, cN1⟩ := N.out.two
          have lN := N.out.lt
          obtain ⟨cD0, cD1⟩ := D.out.two
          have lD := D.out.lt
          obtain ⟨cW0, cW1⟩ := W.out.two
          have lW := W.out.lt
          go_wp2_with fail
          with_reducible refine Calls.mono (C2.out _ HT.out) ?_
          rintro e w17 ⟨rfl, hb⟩
          replace HT := Lib.hid (HT.out.next hb)
          replace BB := Lib.hid (Below.andThen BB.out hb)
          clear hb
          go_wp2_with fail
          go_ret
          exact ⟨rfl, BB.out⟩
        · have d0 : decide ((i : Int) = 0) = false := by rw [decide_eq_false_iff_not]; omega
          have d1 : ((i : Int) == 0) = false := d0
          clear hk0 H00
          go_upto_region 22 with (fail)
          go_wp2_with fail
          with_reducible refine Calls.mono (CI.out _ _ _) ?_
          rintro e w16 ⟨rfl, hb⟩
          replace R := Lib.hid (R.out.next hb)
          replace A := Lib.hid (A.out.next hb)
          replace B := Lib.hid (B.out.next hb)
          replace G := Lib.hid (G.out.next hb)
          replace H := Lib.hid (H.out.next hb)
          replace N := Lib.hid (N.out.next hb)
          replace D := Lib.hid (D.out.next hb)
          replace W := Lib.hid (W.out.next hb)
          replace BB := Lib.hid (Below.andThen BB.out hb)
          clear hb
          obtain ⟨cW0, cW1⟩ := W.out.two
          have lW := W.out.lt
          have fW0 := W.out.frozen 0
          have fW1 := W.out.frozen 1
          go_upto_region 24 with (fail)
          refine wp_named fun v16 hq => ?_
          replace R := Lib.hid (show Row v16 bR 23 [_, _] from by rw [hq]; exact (R.out.other NE.out.1 _ _).other NE.out.1 _ _)
          replace A := Lib.hid (show Row v16 bA 23 [_, _] from by rw [hq]; exact (A.out.other NE.out.2.1 _ _).other NE.out.2.1 _ _)
          replace B := Lib.hid (show Row v16 bB 23 [_, _] from by rw [hq]; exact (B.out.other NE.out.2.2.1 _ _).other NE.out.2.2.1 _ _)
          replace G := Lib.hid (show Row v16 bG 23 [_, _] from by rw [hq]; exact (G.out.other NE.out.2.2.2.1 _ _).other NE.out.2.2.2.1 _ _)
          replace H := Lib.hid (show Row v16 bH 23 [_, _] from by rw [hq]; exact (H.out.other NE.out.2.2.2.2.1 _ _).other NE.out.2.2.2.2.1 _ _)
          replace N := Lib.hid (show Row v16 bN 23 [_, _] from by rw [hq]; exact (N.out.other NE.out.2.2.2.2.2.1 _ _).other NE.out.2.2.2.2.2.1 _ _)
          replace D := Lib.hid (show Row v16 bD 23 [_, _] from by rw [hq]; exact (D.out.other NE.out.2.2.2.2.2.2 _ _).other NE.out.2.2.2.2.2.2 _ _)
          replace W := Lib.hid (show Row v16 bW 23 [.string ⟨#[48]⟩, .string ⟨#[49]⟩] from by rw [hq]; exact (W.out.set 0 (.string ⟨#[48]⟩)).set 1 (.string ⟨#[49]⟩))
          replace BB := Lib.hid (show Below w.heap.size w v16 from by rw [hq]; exact (BB.out.setCell (p := ⟨bW, 0, none⟩) HLW.out _).setCell (p := ⟨bW, 1, none⟩) HLW.out _)
          clear hq cW0 cW1 lW fW0 fW1 HT
          have HT := Lib.hid (HT0.out.next BB.out)
          obtain ⟨cR0, cR1⟩ := R.out.two
          have lR := R.out.lt
          obtain ⟨cA0, cA1⟩ := A.out.two
          have lA := A.out.lt
          obtain ⟨cB0, cB1⟩ := B.out.two
          have lB := B.out.lt
          obtain ⟨cG0, cG1⟩ := G.out.two
          have lG := G.out.lt
          obtain ⟨cH0, cH1⟩ := H.out.two
          have lH := H.out.lt
          obtain ⟨cN0, cN1⟩ := N.out.two
          have lN := N.out.lt
          obtain ⟨cD0, cD1⟩ := D.out.two
          have lD := D.out.lt
          obtain ⟨cW0, cW1⟩ := W.out.two
          have lW := W.out.lt
          go_wp2_with fail
          with_reducible refine Calls.mono (C2.out _ HT.out) ?_
          rintro e w17 ⟨rfl, hb⟩
          replace HT := Lib.hid (HT.out.next hb)
          replace BB := Lib.hid (Below.andThen BB.out hb)
          clear hb
          go_wp2_with fail
          go_ret
          exact ⟨rfl, BB.out⟩
  · rw [if_neg hr] at hbl hab hw
    have CW := Lib.hid (fun W T => Sub_q oU oD hw W T)
    have C1 := Lib.hid (fun W T => Cmp_q oD hp hbl W T)
    have C2 := Lib.hid (fun W T => Cmp_q oU hp hab W T)
    rw [← ten_tx'] at CW
    dsimp only at CNN
    rw [Int.neg_neg] at CNN
    clear hbl hab hw hr eN oD oU g hp hp1 hp2 hk'
    rw [show ((Ra.mkR (p.1 * 10 ^ k / p.2 + Ra.up1 p k) (10 ^ k)).1, (Ra.mkR (p.1 * 10 ^ k / p.2 + Ra.up1 p k) (10 ^ k)).2) = Ra.mkR (p.1 * 10 ^ k / p.2 + Ra.up1 p k) (10 ^ k) from rfl] at CNN
    generalize In.txt (p.1 * 10 ^ k / p.2) = n1 at *
    obtain ⟨u1, u2, hu⟩ : ∃ u1 u2, Ra.tx (some (Ra.mkR (p.1 * 10 ^ k / p.2 + Ra.up1 p k) (10 ^ k))) = (u1, u2) := ⟨_, _, rfl⟩
    obtain ⟨a1, a2, ha⟩ : ∃ u1 u2, Ra.tx (some (Ra.mkR (p.1 * 10 ^ k / p.2) (10 ^ k))) = (u1, u2) := ⟨_, _, rfl⟩
    obtain ⟨r1, r2, hr⟩ : ∃ u1 u2, Ra.tx (some p) = (u1, u2) := ⟨_, _, rfl⟩
    obtain ⟨m1, m2, hm⟩ : ∃ u1 u2, Ra.tx (some (-p.1, p.2)) = (u1, u2) := ⟨_, _, rfl⟩
    obtain ⟨c1, c2, hc⟩ : ∃ u1 u2, Ra.tx (some (-(Ra.mkR (p.1 * 10 ^ k / p.2 + Ra.up1 p k) (10 ^ k)).1, (Ra.mkR (p.1 * 10 ^ k / p.2 + Ra.up1 p k) (10 ^ k)).2)) = (u1, u2) := ⟨_, _, rfl⟩
    rw [hr, ha] at CD
    rw [hr, hu] at CU
    rw [hr, hm] at CN
    rw [hm, hc] at CDN
    rw [hc, hu] at CNN
    rw [hu] at CDB
    rw [ha] at CUA CMU
    rw [hu, ha] at CW
    rw [ha, hr] at C1
    rw [hu, hr] at C2
    rw [hr]
    clear hu ha hr hm hc
    go_wp2_with fail
    refine calls_named fun v3 hq => ?_
    obtain ⟨bR, ebR⟩ : ∃ b, b = w3.heap.size := ⟨_, rfl⟩
    have R := Lib.hid (show Row v3 bR 23 [.string r1, .string r2] from by rw [hq, ebR]; first | exact Row.new _ _ _ | exact ((Row.new w3 23 [.string ⟨#[]⟩, .string ⟨#[]⟩]).set 0 (.string r1)).set 1 (.string r2))
    have hb : Below w3.heap.size w3 v3 := by rw [hq]; first | exact (Below.refl _ _).alloc (Nat.le_refl _) _ | exact (((Below.refl _ _).alloc (Nat.le_refl _) _).setCell (p := ⟨w3.heap.size, 0, none⟩) (Nat.le_refl _) _).setCell (p := ⟨w3.heap.size, 1, none⟩) (Nat.le_refl _) _
    replace HT := Lib.hid (HT.out.next hb)
    replace BB := Lib.hid (Below.andThen BB.out hb)
    rw [← ebR]
    clear hq hb ebR
    with_reducible refine Calls.mono (KF.out _) ?_
    rintro e w' ⟨rfl, rfl⟩
    go_wp2_with fail
    go_loopw [7, 8] (fun sv iv wr => ∃ i : Nat, iv = .int .i64 i ∧ i ≤ k ∧ sv = .string (tenS i) ∧ v3 = wr) (fun _ iv _ => k - (intOf iv).toNat)
    case atStart => refine ⟨0, ?_, ?_, ?_, ?_⟩ <;> first | trivial | rfl | omega
    case round =>
      obtain ⟨i, rfl, hi, rfl, rfl⟩ := hrel
      have hz := tenS_size i
      by_cases h : i < k
      · have HN := Lib.hid (tenS_next i)
        have HNN := Lib.hid (tenS_size (i + 1))
        clear CD CU CN CDN CNN CDB CUA CMU CW C1 C2 h00
        generalize tenS i = s at *
        have hs : ¬ (9223372036854775807 < s.size + (⟨#[48]⟩ : ByteArray).size) := by rw [show (⟨#[48]⟩ : ByteArray).size = 1 from rfl]; omega
        have hs2 : ¬ (9223372036854775807 < s.size + 1) := by omega
        have d1 : decide ((i : Int) < k) = true := by simp; omega
        go_wp2_with fail
        go_round
        case rel => exact ⟨i + 1, vint (by omega), by omega, by rw [HN.out], by first | trivial | rfl⟩
        case measure => simp [intOf]; omega
      · obtain rfl : i = k := by omega
        clear h hi hz
        have H00 := Lib.hid h00
        clear h00
        generalize tenS i = t at *
        go_upto_region 9 with (fail)
        obtain ⟨cR0, cR1⟩ := R.out.two
        have lR := R.out.lt
        go_wp2_with fail
        clear cR0 cR1 lR
        with_reducible refine Calls.mono (CD.out _ HT.out) ?_
        rintro e w4 ⟨rfl, hb⟩
        replace HT := Lib.hid (HT.out.next hb)
        replace R := Lib.hid (R.out.next hb)
        replace BB := Lib.hid (Below.andThen BB.out hb)
        clear hb
        go_upto_region 10 with (fail)
        refine wp_named fun v4 hq => ?_
        obtain ⟨bA, ebA⟩ : ∃ b, b = w4.heap.size := ⟨_, rfl⟩
        have A := Lib.hid (show Row v4 bA 23 [.string a1, .string a2] from by rw [hq, ebA]; first | exact Row.new _ _ _ | exact ((Row.new w4 23 [.string ⟨#[]⟩, .string ⟨#[]⟩]).set 0 (.string a1)).set 1 (.string a2))
        have hb : Below w4.heap.size w4 v4 := by rw [hq]; first | exact (Below.refl _ _).alloc (Nat.le_refl _) _ | exact (((Below.refl _ _).alloc (Nat.le_refl _) _).setCell (p := ⟨w4.heap.size, 0, none⟩) (Nat.le_refl _) _).setCell (p := ⟨w4.heap.size, 1, none⟩) (Nat.le_refl _) _
        replace HT := Lib.hid (HT.out.next hb)
        replace R := Lib.hid (R.out.next hb)
        replace BB := Lib.hid (Below.andThen BB.out hb)
        rw [← ebA]
        clear hq hb ebA
        obtain ⟨cR0, cR1⟩ := R.out.two
        have lR := R.out.lt
        go_wp2_with fail
        clear cR0 cR1 lR
        with_reducible refine Calls.mono (CU.out _ HT.out) ?_
        rintro e w5 ⟨rfl, hb⟩
        replace HT := Lib.hid (HT.out.next hb)
        replace R := Lib.hid (R.out.next hb)
        replace A := Lib.hid (A.out.next hb)
        replace BB := Lib.hid (Below.andThen BB.out hb)
        clear hb
        go_upto_region 11 with (fail)
        refine wp_named fun v5 hq => ?_
        obtain ⟨bB, ebB⟩ : ∃ b, b = w5.heap.size := ⟨_, rfl⟩
        have B := Lib.hid (show Row v5 bB 23 [.string u1, .string u2] from by rw [hq, ebB]; first | exact Row.new _ _ _ | exact ((Row.new w5 23 [.string ⟨#[]⟩, .string ⟨#[]⟩]).set 0 (.string u1)).set 1 (.string u2))
        have hb : Below w5.heap.size w5 v5 := by rw [hq]; first | exact (Below.refl _ _).alloc (Nat.le_refl _) _ | exact (((Below.refl _ _).alloc (Nat.le_refl _) _).setCell (p := ⟨w5.heap.size, 0, none⟩) (Nat.le_refl _) _).setCell (p := ⟨w5.heap.size, 1, none⟩) (Nat.le_refl _) _
        replace HT := Lib.hid (HT.out.next hb)
        replace R := Lib.hid (R.out.next hb)
        replace A := Lib.hid (A.out.next hb)
        replace BB := Lib.hid (Below.andThen BB.out hb)
        rw [← ebB]
        clear hq hb ebB
        obtain ⟨cR0, cR1⟩ := R.out.two
        have lR := R.out.lt
        go_wp2_with fail
        clear cR0 cR1 lR
        with_reducible refine Calls.mono (CN.out _ HT.out) ?_
        rintro e w6 ⟨rfl, hb⟩
        replace HT := Lib.hid (HT.out.next hb)
        replace R := Lib.hid (R.out.next hb)
        replace A := Lib.hid (A.out.next hb)
        replace B := Lib.hid (B.out.next hb)
        replace BB := Lib.hid (Below.andThen BB.out hb)
        clear hb
        go_wp2_with fail
        with_reducible refine Calls.mono (CDN.out _ HT.out) ?_
        rintro e w7 ⟨rfl, hb⟩
        replace HT := Lib.hid (HT.out.next hb)
        replace R := Lib.hid (R.out.next hb)
        replace A := Lib.hid (A.out.next hb)
        replace B := Lib.hid (B.out.next hb)
        replace BB := Lib.hid (Below.andThen BB.out hb)
        clear hb
        go_upto_region 12 with (fail)
        refine wp_named fun v7 hq => ?_
        obtain ⟨bC, ebC⟩ : ∃ b, b = w7.heap.size := ⟨_, rfl⟩
        have C := Lib.hid (show Row v7 bC 23 [.string c1, .string c2] from by rw [hq, ebC]; first | exact Row.new _ _ _ | exact ((Row.new w7 23 [.string ⟨#[]⟩, .string ⟨#[]⟩]).set 0 (.string c1)).set 1 (.string c2))
        have hb : Below w7.heap.size w7 v7 := by rw [hq]; first | exact (Below.refl _ _).alloc (Nat.le_refl _) _ | exact (((Below.refl _ _).alloc (Nat.le_refl _) _).setCell (p := ⟨w7.heap.size, 0, none⟩) (Nat.le_refl _) _).setCell (p := ⟨w7.heap.size, 1, none⟩) (Nat.le_refl _) _
        replace HT := Lib.hid (HT.out.next hb)
        replace R := Lib.hid (R.out.next hb)
        replace A := Lib.hid (A.out.next hb)
        replace B := Lib.hid (B.out.next hb)
        replace BB := Lib.hid (Below.andThen BB.out hb)
        rw [← ebC]
        clear hq hb ebC
        obtain ⟨cR0, cR1⟩ := R.out.two
        have lR := R.out.lt
        obtain ⟨cA0, cA1⟩ := A.out.two
        have lA := A.out.lt
        obtain ⟨cB0, cB1⟩ := B.out.two
        have lB := B.out.lt
        obtain ⟨cC0, cC1⟩ := C.out.two
        have lC := C.out.lt
        refine wp_region_kin (by kernel_rfl) (by kernel_rfl) v7.heap.size 0 (by simp) (fun hk => ?_)
        repeat (go_big_quiet_step (first | (go_at_call 42; first | with_reducible exact Calls.kin (CNN.out _ (HT.out.next (Kin.below _)))) | (go_at_call 20; first | with_reducible exact Calls.kin (C1.out _ (HT.out.next (Kin.below _))) | with_reducible exact Calls.kin (C2.out _ (HT.out.next (Kin.below _))))))
        refine wpQuiet_nil ?_
        clear hk
        intro w8 hb
        replace HT := Lib.hid (HT.out.next hb)
        replace R := Lib.hid (R.out.next hb)
        replace A := Lib.hid (A.out.next hb)
        replace B := Lib.hid (B.out.next hb)
        replace BB := Lib.hid (Below.andThen BB.out hb)
        clear hb
        clear cR0 cR1 lR cA0 cA1 lA cB0 cB1 lB cC0 cC1 lC
        go_upto_region 14 with (fail)
        obtain ⟨cB0, cB1⟩ := B.out.two
        have lB := B.out.lt
        go_wp2_with fail
        clear cB0 cB1 lB
        with_reducible refine Calls.mono (CDB.out _ HT.out) ?_
        rintro e w9 ⟨rfl, hb⟩
        replace HT := Lib.hid (HT.out.next hb)
        replace R := Lib.hid (R.out.next hb)
        replace A := Lib.hid (A.out.next hb)
        replace B := Lib.hid (B.out.next hb)
        replace BB := Lib.hid (Below.andThen BB.out hb)
        clear hb
        go_upto_region 15 with (fail)
        refine wp_named fun v9 hq => ?_
        obtain ⟨bG, ebG⟩ : ∃ b, b = w9.heap.size := ⟨_, rfl⟩
        have G := Lib.hid (show Row v9 bG 23 [.string u1, .string u2] from by rw [hq, ebG]; first | exact Row.new _ _ _ | exact ((Row.new w9 23 [.string ⟨#[]⟩, .string ⟨#[]⟩]).set 0 (.string u1)).set 1 (.string u2))
        have hb : Below w9.heap.size w9 v9 := by rw [hq]; first | exact (Below.refl _ _).alloc (Nat.le_refl _) _ | exact (((Below.refl _ _).alloc (Nat.le_refl _) _).setCell (p := ⟨w9.heap.size, 0, none⟩) (Nat.le_refl _) _).setCell (p := ⟨w9.heap.size, 1, none⟩) (Nat.le_refl _) _
        replace HT := Lib.hid (HT.out.next hb)
        replace R := Lib.hid (R.out.next hb)
        replace A := Lib.hid (A.out.next hb)
        replace B := Lib.hid (B.out.next hb)
        replace BB := Lib.hid (Below.andThen BB.out hb)
        rw [← ebG]
        clear hq hb ebG
        obtain ⟨cA0, cA1⟩ := A.out.two
        have lA := A.out.lt
        go_wp2_with fail
        clear cA0 cA1 lA
        with_reducible refine Calls.mono (CUA.out _ HT.out) ?_
        rintro e w10 ⟨rfl, hb⟩
        replace HT := Lib.hid (HT.out.next hb)
        replace R := Lib.hid (R.out.next hb)
        replace A := Lib.hid (A.out.next hb)
        replace B := Lib.hid (B.out.next hb)
        replace G := Lib.hid (G.out.next hb)
        replace BB := Lib.hid (Below.andThen BB.out hb)
        clear hb
        go_upto_region 16 with (fail)
        refine wp_named fun v10 hq => ?_
        obtain ⟨bH, ebH⟩ : ∃ b, b = w10.heap.size := ⟨_, rfl⟩
        have H := Lib.hid (show Row v10 bH 23 [.string a1, .string a2] from by rw [hq, ebH]; first | exact Row.new _ _ _ | exact ((Row.new w10 23 [.string ⟨#[]⟩, .string ⟨#[]⟩]).set 0 (.string a1)).set 1 (.string a2))
        have hb : Below w10.heap.size w10 v10 := by rw [hq]; first | exact (Below.refl _ _).alloc (Nat.le_refl _) _ | exact (((Below.refl _ _).alloc (Nat.le_refl _) _).setCell (p := ⟨w10.heap.size, 0, none⟩) (Nat.le_refl _) _).setCell (p := ⟨w10.heap.size, 1, none⟩) (Nat.le_refl _) _
        replace HT := Lib.hid (HT.out.next hb)
        replace R := Lib.hid (R.out.next hb)
        replace A := Lib.hid (A.out.next hb)
        replace B := Lib.hid (B.out.next hb)
        replace G := Lib.hid (G.out.next hb)
        replace BB := Lib.hid (Below.andThen BB.out hb)
        rw [← ebH]
        clear hq hb ebH
        obtain ⟨cA0, cA1⟩ := A.out.two
        have lA := A.out.lt
        refine wp_region_late_float 6 [8] 7 8 _ (.cells #[.string ⟨#[]⟩, .string ⟨#[]⟩] 23) (by kernel_rfl) (by kernel_rfl) (fun dst _ _ _ _ h => by cases dst <;> exact h) (by kernel_rfl) (by kernel_rfl) rfl rfl (fun ρ w1 => by go_simp) v10.heap.size 0 (by simp) (fun WW hk hWW => ?_)
        simp only [List.take_succ_cons, List.take_zero, List.drop_succ_cons, List.drop_zero, List.cons_append, List.nil_append]
        repeat (go_big_quiet_step (first | (go_at_call 41; first | with_reducible exact Calls.kin (CI.out _ _ _)) | (go_at_call 39; first | with_reducible exact Calls.kin (CMU.out _ ((HT.out.next hWW).next (Kin.below _))))))
        refine wpQuiet_nil ?_
        clear hk hWW
        intro w11 b11 hfb hfl hfo
        obtain ⟨ocb11, ofb11⟩ := block_cells hfo
        have osb11 := block_lt hfo
        have HFB := Lib.hid hfb
        have HFL := Lib.hid hfl
        have HFO := Lib.hid (show Row w11 b11 23 [.string ⟨#[]⟩, .string ⟨#[]⟩] from hfo)
        clear hfo hfb hfl
        simp only [Act.put, List.setIfInBounds_toArray, List.set_cons_zero, List.set_cons_succ]
        
        clear cA0 cA1 lA
        go_upto_region 17 with (fail)
        refine wp_named fun v11 hq => ?_
        have N := Lib.hid (show Row v11 b11 23 [.string n1, .string ⟨#[49]⟩] from by rw [hq]; exact (HFO.out.set 0 (.string n1)).set 1 (.string ⟨#[49]⟩))
        have hb : Below v10.heap.size v10 v11 := by rw [hq]; exact (HFB.out.setCell (p := ⟨b11, 0, none⟩) HFL.out _).setCell (p := ⟨b11, 1, none⟩) HFL.out _
        replace HT := Lib.hid (HT.out.next hb)
        replace R := Lib.hid (R.out.next hb)
        replace A := Lib.hid (A.out.next hb)
        replace B := Lib.hid (B.out.next hb)
        replace G := Lib.hid (G.out.next hb)
        replace H := Lib.hid (H.out.next hb)
        replace BB := Lib.hid (Below.andThen BB.out hb)
        clear hq hb HFO HFB HFL ocb11 ofb11 osb11
        obtain ⟨cA0, cA1⟩ := A.out.two
        have lA := A.out.lt
        obtain ⟨cB0, cB1⟩ := B.out.two
        have lB := B.out.lt
        go_wp2_with fail
        clear cA0 cA1 lA cB0 cB1 lB
        with_reducible refine Calls.mono (CW.out _ HT.out) ?_
        rintro e w12 ⟨rfl, hb⟩
        replace HT := Lib.hid (HT.out.next hb)
        replace R := Lib.hid (R.out.next hb)
        replace A := Lib.hid (A.out.next hb)
        replace B := Lib.hid (B.out.next hb)
        replace G := Lib.hid (G.out.next hb)
        replace H := Lib.hid (H.out.next hb)
        replace N := Lib.hid (N.out.next hb)
        replace BB := Lib.hid (Below.andThen BB.out hb)
        clear hb
        go_upto_region 18 with (fail)
        refine wp_named fun v12 hq => ?_
        obtain ⟨bD, ebD⟩ : ∃ b, b = w12.heap.size := ⟨_, rfl⟩
        have D := Lib.hid (show Row v12 bD 23 [.string ⟨#[49]⟩, .string t] from by rw [hq, ebD]; first | exact Row.new _ _ _ | exact ((Row.new w12 23 [.string ⟨#[]⟩, .string ⟨#[]⟩]).set 0 (.string ⟨#[49]⟩)).set 1 (.string t))
        have hb : Below w12.heap.size w12 v12 := by rw [hq]; first | exact (Below.refl _ _).alloc (Nat.le_refl _) _ | exact (((Below.refl _ _).alloc (Nat.le_refl _) _).setCell (p := ⟨w12.heap.size, 0, none⟩) (Nat.le_refl _) _).setCell (p := ⟨w12.heap.size, 1, none⟩) (Nat.le_refl _) _
        replace HT := Lib.hid (HT.out.next hb)
        replace R := Lib.hid (R.out.next hb)
        replace A := Lib.hid (A.out.next hb)
        replace B := Lib.hid (B.out.next hb)
        replace G := Lib.hid (G.out.next hb)
        replace H := Lib.hid (H.out.next hb)
        replace N := Lib.hid (N.out.next hb)
        replace BB := Lib.hid (Below.andThen BB.out hb)
        rw [← ebD]
        clear hq hb ebD
        obtain ⟨cA0, cA1⟩ := A.out.two
        have lA := A.out.lt
        obtain ⟨cR0, cR1⟩ := R.out.two
        have lR := R.out.lt
        go_wp2_with fail
        clear cA0 cA1 lA cR0 cR1 lR
        with_reducible refine Calls.mono (C1.out _ HT.out) ?_
        rintro e w13 ⟨rfl, hb⟩
        replace HT := Lib.hid (HT.out.next hb)
        replace R := Lib.hid (R.out.next hb)
        replace A := Lib.hid (A.out.next hb)
        replace B := Lib.hid (B.out.next hb)
        replace G := Lib.hid (G.out.next hb)
        replace H := Lib.hid (H.out.next hb)
        replace N := Lib.hid (N.out.next hb)
        replace D := Lib.hid (D.out.next hb)
        replace BB := Lib.hid (Below.andThen BB.out hb)
        clear hb
        go_wp2_with fail
        with_reducible refine Calls.mono (CI.out _ _ _) ?_
        rintro e w14 ⟨rfl, hb⟩
        replace HT := Lib.hid (HT.out.next hb)
        replace R := Lib.hid (R.out.next hb)
        replace A := Lib.hid (A.out.next hb)
        replace B := Lib.hid (B.out.next hb)
        replace G := Lib.hid (G.out.next hb)
        replace H := Lib.hid (H.out.next hb)
        replace N := Lib.hid (N.out.next hb)
        replace D := Lib.hid (D.out.next hb)
        replace BB := Lib.hid (Below.andThen BB.out hb)
        clear hb
        go_upto_region 20 with (fail)
        refine wp_named fun v14 hq => ?_
        obtain ⟨bW, ebW⟩ : ∃ b, b = w14.heap.size := ⟨_, rfl⟩
        have NE := Lib.hid (show bR ≠ bW ∧ bA ≠ bW ∧ bB ≠ bW ∧ bG ≠ bW ∧ bH ≠ bW ∧ b11 ≠ bW ∧ bD ≠ bW from by rw [ebW]; exact ⟨Nat.ne_of_lt R.out.lt, Nat.ne_of_lt A.out.lt, Nat.ne_of_lt B.out.lt, Nat.ne_of_lt G.out.lt, Nat.ne_of_lt H.out.lt, Nat.ne_of_lt N.out.lt, Nat.ne_of_lt D.out.lt⟩)
        have HLW := Lib.hid (show w.heap.size ≤ bW from by rw [ebW]; exact BB.out.size)
        have W := Lib.hid (show Row v14 bW 23 [.string ⟨#[49]⟩, .string t] from by rw [hq, ebW]; first | exact Row.new _ _ _ | exact ((Row.new w14 23 [.string ⟨#[]⟩, .string ⟨#[]⟩]).set 0 (.string ⟨#[49]⟩)).set 1 (.string t))
        have hb : Below w14.heap.size w14 v14 := by rw [hq]; first | exact (Below.refl _ _).alloc (Nat.le_refl _) _ | exact (((Below.refl _ _).alloc (Nat.le_refl _) _).setCell (p := ⟨w14.heap.size, 0, none⟩) (Nat.le_refl _) _).setCell (p := ⟨w14.heap.size, 1, none⟩) (Nat.le_refl _) _
        replace HT := Lib.hid (HT.out.next hb)
        replace R := Lib.hid (R.out.next hb)
        replace A := Lib.hid (A.out.next hb)
        replace B := Lib.hid (B.out.next hb)
        replace G := Lib.hid (G.out.next hb)
        replace H := Lib.hid (H.out.next hb)
        replace N := Lib.hid (N.out.next hb)
        replace D := Lib.hid (D.out.next hb)
        replace BB := Lib.hid (Below.andThen BB.out hb)
        rw [← ebW]
        clear hq hb ebW
        obtain ⟨bN, ebN⟩ : ∃ b, b = b11 := ⟨_, rfl⟩
        rw [← ebN] at N NE ⊢
        clear ebN
        clear CD CU CN CDN CNN CDB CUA CMU CW C1 KF
        by_cases hk0 : i = 0
        · have K0 := Lib.hid (H00.out hk0)
          have d0 : decide ((i : Int) = 0) = true := by rw [decide_eq_true_eq]; omega
          have d1 : ((i : Int) == 0) = true := d0
          clear hk0
          have hT := K0.out
          clear K0 H00
          subst hT
          go_wp2_with fail
          with_reducible refine Calls.mono (CI.out _ _ _) ?_
          rintro e w15 ⟨rfl, hb⟩
          replace R := Lib.hid (R.out.next hb)
          replace A := Lib.hid (A.out.next hb)
          replace B := Lib.hid (B.out.next hb)
          replace G := Lib.hid (G.out.next hb)
          replace H := Lib.hid (H.out.next hb)
          replace N := Lib.hid (N.out.next hb)
          replace D := Lib.hid (D.out.next hb)
          replace W := Lib.hid (W.out.next hb)
          replace BB := Lib.hid (Below.andThen BB.out hb)
          clear hb
          obtain ⟨cW0, cW1⟩ := W.out.two
          have lW := W.out.lt
          have fW0 := W.out.frozen 0
          have fW1 := W.out.frozen 1
          go_upto_region 22 with (fail)
          refine wp_named fun v15 hq => ?_
          replace R := Lib.hid (show Row v15 bR 23 [_, _] from by rw [hq]; exact (R.out.other NE.out.1 _ _).other NE.out.1 _ _)
          replace A := Lib.hid (show Row v15 bA 23 [_, _] from by rw [hq]; exact (A.out.other NE.out.2.1 _ _).other NE.out.2.1 _ _)
          replace B := Lib.hid (show Row v15 bB 23 [_, _] from by rw [hq]; exact (B.out.other NE.out.2.2.1 _ _).other NE.out.2.2.1 _ _)
          replace G := Lib.hid (show Row v15 bG 23 [_, _] from by rw [hq]; exact (G.out.other NE.out.2.2.2.1 _ _).other NE.out.2.2.2.1 _ _)
          replace H := Lib.hid (show Row v15 bH 23 [_, _] from by rw [hq]; exact (H.out.other NE.out.2.2.2.2.1 _ _).other NE.out.2.2.2.2.1 _ _)
          replace N := Lib.hid (show Row v15 bN 23 [_, _] from by rw [hq]; exact (N.out.other NE.out.2.2.2.2.2.1 _ _).other NE.out.2.2.2.2.2.1 _ _)
          replace D := Lib.hid (show Row v15 bD 23 [_, _] from by rw [hq]; exact (D.out.other NE.out.2.2.2.2.2.2 _ _).other NE.out.2.2.2.2.2.2 _ _)
          replace W := Lib.hid (show Row v15 bW 23 [.string ⟨#[49]⟩, .string ⟨#[49]⟩] from by rw [hq]; exact (W.out.set 0 (.string ⟨#[49]⟩)).set 1 (.string ⟨#[49]⟩))
          replace BB := Lib.hid (show Below w.heap.size w v15 from by rw [hq]; exact (BB.out.setCell (p := ⟨bW, 0, none⟩) HLW.out _).setCell (p := ⟨bW, 1, none⟩) HLW.out _)
          clear hq cW0 cW1 lW fW0 fW1 HT
          have HT := Lib.hid (HT0.out.next BB.out)
          go_upto_region 24 with (fail)
          obtain ⟨cR0, cR1⟩ := R.out.two
          have lR := R.out.lt
          obtain ⟨cA0, cA1⟩ := A.out.two
          have lA := A.out.lt
          obtain ⟨cB0, cB1⟩ := B.out.two
          have lB := B.out.lt
          obtain ⟨cG0, cG1⟩ := G.out.two
          have lG := G.out.lt
          obtain ⟨cH0, cH1⟩ := H.out.two
          have lH := H.out.lt
          obtain ⟨cN0, cN1⟩ := N.out.two
          have lN := N.out.lt
          obtain ⟨cD0, cD1⟩ := D.out.two
          have lD := D.out.lt
          obtain ⟨cW0, cW1⟩ := W.out.two
          have lW := W.out.lt
          go_wp2_with fail
          with_reducible refine Calls.mono (C2.out _ HT.out) ?_
          rintro e w17 ⟨rfl, hb⟩
          replace HT := Lib.hid (HT.out.next hb)
          replace BB := Lib.hid (Below.andThen BB.out hb)
          clear hb
          go_wp2_with fail
          go_ret
          exact ⟨rfl, BB.out⟩
        · have d0 : decide ((i : Int) = 0) = false := by rw [decide_eq_false_iff_not]; omega
          have d1 : ((i : Int) == 0) = false := d0
          clear hk0 H00
          go_upto_region 22 with (fail)
          go_upto_region 24 with (fail)
          obtain ⟨cR0, cR1⟩ := R.out.two
          have lR := R.out.lt
          obtain ⟨cA0, cA1⟩ := A.out.two
          have lA := A.out.lt
          obtain ⟨cB0, cB1⟩ := B.out.two
          have lB := B.out.lt
          obtain ⟨cG0, cG1⟩ := G.out.two
          have lG := G.out.lt
          obtain ⟨cH0, cH1⟩ := H.out.two
          have lH := H.out.lt
          obtain ⟨cN0, cN1⟩ := N.out.two
          have lN := N.out.lt
          obtain ⟨cD0, cD1⟩ := D.out.two
          have lD := D.out.lt
          obtain ⟨cW0, cW1⟩ := W.out.two
          have lW := W.out.lt
          go_wp2_with fail
          with_reducible refine Calls.mono (C2.out _ HT.out) ?_
          rintro e w17 ⟨rfl, hb⟩
          replace HT := Lib.hid (HT.out.next hb)
          replace BB := Lib.hid (Below.andThen BB.out hb)
          clear hb
          go_wp2_with fail
          go_ret
          exact ⟨rfl, BB.out⟩
namespace rationalGrid
theorem flat0 : leafsOf Tryz.prog 5 24 = some [some (some .i64), some (some .i64), some (some .i64), some (some .i64)] := by kernel_rfl
set_option maxRecDepth 100000 in
theorem contract (H : Type) (enc : TypeId × Value → H) (W : World) (base : Nat) (args : Array Value) (ds gs : List (DataW H)) (before : List MemPlace)
    (hval : ∀ (j : Nat) t v, Tryz.f8.params[j]? = some t → args[j]? = some v → Value.okWide Tryz.prog W .any base t v)
    (hW : DataW.Whole enc Tryz.prog Tryz.f8.params.toList Rows.rationalGridSpec.vars false W args.toList ds gs before) (hL : laidMetH Tryz.prog Rows.rationalGridRow.laid W) (hsh : W.ShapedOpen Tryz.prog) :
    Calls Tryz.prog 8 args W fun e W' => ∃ v, e = .returned v ∧ Rows.rationalGridSpec.post enc Tryz.prog Tryz.f8 false true false false W args v W' := by
  have hW' := hW
  obtain ⟨p, q, hA0, hV, rfl, hfz, hnd⟩ := hW
  have hA : DataW.TrodAll enc Tryz.prog W 0 (fun _ => true) true Tryz.f8.params.toList args.toList ds p := hA0
  rw [Tryz.params8] at hA hval
  obtain ⟨v0, vs0, d0, ds0, p0, q0, hargs, rfl, rfl, h0, r0⟩ := trodAll_cons hA
  obtain ⟨v1, vs1, d1, ds1, p1, q1, rfl, rfl, rfl, h1, r1⟩ := trodAll_cons r0
  obtain ⟨rfl, rfl, rfl⟩ := trodAll_nil r1
  obtain rfl : args = #[v0, v1] := by cases args; simp_all
  obtain ⟨cs0, rfl, c0x0, rs0x0, rfl, ⟨a0, rfl, k0⟩, c0x1, rs0x1, rfl, ⟨a1, rfl, k1⟩, c0x2, rs0x2, rfl, ⟨a2, rfl, k2⟩, c0x3, rs0x3, rfl, ⟨a3, rfl, k3⟩, rfl⟩ := open_agg 5 flat0 (by kernel_rfl) (hval 0 _ _ rfl rfl) h0
  obtain ⟨a4, rfl, rfl, rfl, k4⟩ := open_int Tryz.underlying3 (hval 1 _ _ rfl rfl) h1
  refine (rationalGrid_law a0 a1 a2 a3 a4 W (rwT hL hsh) (bd_i64 k0) (bd_i64 k1) (bd_i64 k2) (bd_i64 k3) (bd_i64 k4)).mono fun e W' ⟨he, hb⟩ => ?_
  subst he
  obtain ⟨rfl, _⟩ := trodVars_none hV
  exact ⟨_, rfl, law_post laidOut (by kernel_rfl) rfl (by kernel_rfl) Tryz.underlying4 hW' rfl hb⟩

noncomputable def laidWorld (os : Os) : World := World.laidAll Tryz.prog os Rows.rationalGridRow.laid
def args0 : Array Value := #[.agg #[.int .i64 0, .int .i64 0, .int .i64 0, .int .i64 0], .int .i64 0]
theorem laid_met (os : Os) : laidMet Tryz.prog Rows.rationalGridRow.laid ((laidWorld os).forCall (fun _ _ => 0) ⟨#[], args0, []⟩).memory :=
  laidMet_laidAll _ (by kernel_rfl) (by kernel_rfl)
theorem reads (os : Os) {H : Type} (enc : TypeId × Value → H) : ∃ places, DataW.whole enc Tryz.prog ((laidWorld os).forCall (fun _ _ => 0) ⟨#[], args0, []⟩).memory Tryz.f8.params.toList Rows.rationalGridSpec.vars false args0.toList 8 = some ([.agg [.lit (.int .i64 0), .lit (.int .i64 0), .lit (.int .i64 0), .lit (.int .i64 0)], .lit (.int .i64 0)], [], places) :=
  ⟨[], by kernel_rfl⟩

set_option maxRecDepth 100000 in
theorem lifted (os : Os) (started : os.Started) (H : Type) (enc : TypeId × Value → H) (F : Stop.Interp) :
    ReturnsInHanded {} Tryz.checked os 8 .any ((OpenSpec.ofChange Rows.rationalGridSpec).preRow enc Tryz.prog Tryz.f8 Rows.rationalGridRow.domain false Rows.rationalGridRow.laid) (((OpenSpec.ofChange Rows.rationalGridSpec).at F).post enc Tryz.prog Tryz.f8 false true false false) := by
  obtain ⟨places, hx⟩ := reads os enc
  refine returnsInHanded_of_row (C := Tryz.checked) (s := OpenSpec.ofChange Rows.rationalGridSpec) own started (by kernel_rfl) Tryz.func8
    (witness_row_at (enc := enc) (C := Tryz.checked) false (laidWorld os) args0 (World.laidAll_os _ _ _) (by kernel_rfl) (by kernel_rfl) (by kernel_rfl)
      (OpenSpec.preRow_of_cond 8 hx (by kernel_rfl) (fun k hk => by cases hk) (by kernel_rfl) (laid_met os))) ?_
  intro W base args ds gs before hval hW _ _ _ hL hsh _
  exact contract H enc W base args ds gs before hval hW hL hsh

theorem said : Rows.RationalGridSaid :=
  OpenClaim.holds_of_cond 8 Tryz.f8 rfl rfl rfl rfl rfl rfl rfl ⟨rfl, rfl, rfl, rfl, rfl⟩ rfl rfl rfl rfl rfl (by kernel_rfl) Tryz.func8 (by kernel_rfl)
    (of_decide_eq_true (by kernel_rfl)) (by unfold Func.isWrapper; first | (rw [if_pos (by decide +kernel)]; kernel_rfl) | (rw [if_neg (by decide +kernel)]; exact ⟨rfl, rfl⟩))
    (fun os started H enc _ F => by rw [OpenClaim.pre_eq_preRow]; exact lifted os started H enc F)

theorem plain (f : FuncId) (fn : Func) (hf : Tryz.pinned.checked.prog.funcNamed "newswire/newswirelaw04.RationalGrid" = some f) (hfn : Tryz.pinned.checked.prog.funcs[f]? = some fn) :
    false = Tryz.pinned.checked.prog.looks [] ∧ ∀ (j : Nat) t, fn.params[j]? = some t → Tryz.pinned.checked.prog.wantsStandIn t = false := by
  obtain rfl : f = 8 := Option.some.inj ((show Tryz.prog.funcNamed "newswire/newswirelaw04.RationalGrid" = some 8 by kernel_rfl).symm.trans hf) |>.symm
  obtain rfl : fn = Tryz.f8 := (Option.some.inj (Tryz.func8.symm.trans hfn)).symm
  refine ⟨by kernel_rfl, fun j t ht => ?_⟩
  have all : (Tryz.f8.params.toList.all fun t => Tryz.prog.wantsStandIn t == false) = true := by kernel_rfl
  have := List.all_eq_true.1 all t (by rw [← Array.mem_def]; exact Array.mem_of_getElem? ht)
  exact (show Tryz.prog.wantsStandIn t = false by simpa using this)

/-- The statement. -/
theorem card : Rows.RationalGridCardSaid :=
  Claim7.holds_tied_plain_at .later [] _ _ _ _ said (fun _ h => by cases h) (by kernel_rfl) (fun _ h => by cases h) rationalGrid_row_tie rfl ⟨rfl, rfl⟩ (by kernel_rfl) rfl plain (by kernel_rfl)
end rationalGrid
end Go.Proofs.YtlehjmanlccncaaGreatDoor
