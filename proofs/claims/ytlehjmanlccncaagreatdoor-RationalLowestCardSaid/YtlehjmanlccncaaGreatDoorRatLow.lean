/- For every input, RationalLowest returns true; the listed tables hold what the program's text lays. -/
import Derived.Test.YtlehjmanlccncaaGreatDoorRatFr
import Derived.Test.YtlehjmanlccncaaGreatDoorRatGG
import Derived.Test.YtlehjmanlccncaaGreatDoorRatLp
set_option linter.unusedVariables false
set_option linter.unusedSimpArgs false
namespace Go.Proofs.YtlehjmanlccncaaGreatDoor
open Go.RowKit Go.ChangeShapes Go.WideShapes Go.ChangeAt

theorem rMul_t {x y : Int} (hx : In.Fit x) (hy : In.Fit y) (hz : In.Fit (x * y)) (W : World) : Calls Tryz.prog 44 #[.string (In.txt x), .string (In.txt y)] W fun e w' => e = .returned (.tuple #[.string (In.txt (x * y)), .int .i64 0]) ∧ Below W.heap.size W w' := by
  have k := rMul_any (In.txt x) (In.txt y) W (txt_le hx) (txt_le hy)
  rw [In.opS_some (In.num_fit hx) (In.num_fit hy), In.fit_pos hz] at k
  exact k
theorem Make_t {x y : Int} {p : Int × Int} (hx : In.Fit x) (hy : In.Fit y) (h : y ≠ 0) (e : Ra.mkR x y = p) (W : World) (T : RW W) :
    Calls Tryz.prog 27 #[.string (In.txt x), .string (In.txt y)] W fun e w' => e = .returned (.tuple #[ratV (Ra.tx (some p)), .int .i64 0]) ∧ Below W.heap.size W w' := by
  have k := Make_r (In.txt x) (In.txt y) W T.tab
  rw [Ra.makeS_txt hx hy h, e] at k
  exact k
set_option maxRecDepth 100000 in
set_option maxHeartbeats 8000000 in
theorem rationalLowest_law (x0 x1 x2 x3 fa : Int) (sg : Bool) (w : World) (T : RW w) (h0 : -9223372036854775808 ≤ x0 ∧ x0 ≤ 9223372036854775807) (h1 : -9223372036854775808 ≤ x1 ∧ x1 ≤ 9223372036854775807) (h2 : -9223372036854775808 ≤ x2 ∧ x2 ≤ 9223372036854775807) (h3 : -9223372036854775808 ≤ x3 ∧ x3 ≤ 9223372036854775807)
    (hf : -9223372036854775808 ≤ fa ∧ fa ≤ 9223372036854775807) :
    Calls Tryz.prog 9 #[.agg #[.int .i64 x0, .int .i64 x1, .int .i64 x2, .int .i64 x3], .int .i64 fa, .bool sg] w fun r w' => r = .returned (.bool true) ∧ Below w.heap.size w w' := by
  have HT := Lib.hid T
  have BB := Lib.hid (Below.refl w.heap.size w)
  have HS := Lib.hid sane_any
  have CI := Lib.hid is_any
  have CL := Lib.hid (fun W => Long_any x0 x1 x2 x3 W h0 h1 h2 h3)
  have kf := pick_in fa (n := 1000000) (by decide)
  have KF := Lib.hid (fun W => pick_r fa 1000000 W (by decide) hf.1 hf.2)
  generalize pickZ fa 1000000 = pk at *
  clear T h0 h1 h2 h3 hf
  go_enter Tryz.func9, Tryz.ntmps9
  go_upto_region 1 with (fail)
  refine wp_named fun w1 hq => ?_
  obtain ⟨bX, ebX⟩ : ∃ b, b = w.heap.size := ⟨_, rfl⟩
  have X := Lib.hid (show Row w1 bX 24 [.int .i64 x0, .int .i64 x1, .int .i64 x2, .int .i64 x3] from by rw [hq, ebX]; exact Row.new _ _ _)
  have hb : Below w.heap.size w w1 := by rw [hq]; exact (Below.refl _ _).alloc (Nat.le_refl _) _
  replace HT := Lib.hid (HT.out.next hb)
  replace BB := Lib.hid (Below.andThen BB.out hb)
  rw [← ebX]
  clear hq hb ebX
  go_wp2_with fail
  with_reducible refine Calls.mono (HS.out _ HT.out) ?_
  rintro e w2 ⟨rfl, hb⟩
  replace HT := Lib.hid (HT.out.next hb)
  replace X := Lib.hid (X.out.next hb)
  replace BB := Lib.hid (Below.andThen BB.out hb)
  clear hb
  go_upto_region 2 with (fail)
  have cX0 := (X.out.cell 0).trans (show _ = some (Value.int .i64 _) from rfl)
  have cX1 := (X.out.cell 1).trans (show _ = some (Value.int .i64 _) from rfl)
  have cX2 := (X.out.cell 2).trans (show _ = some (Value.int .i64 _) from rfl)
  have cX3 := (X.out.cell 3).trans (show _ = some (Value.int .i64 _) from rfl)
  have lX := X.out.lt
  go_wp2_with fail
  clear cX0 cX1 cX2 cX3 lX
  with_reducible refine Calls.mono (CL.out _) ?_
  rintro e w3 ⟨p, rfl, hp, hp1, hp2, hb⟩
  replace HT := Lib.hid (HT.out.next hb)
  replace BB := Lib.hid (Below.andThen BB.out hb)
  clear hb X CL
  have hv := Ra.val_tx hp
  have hne := Ra.ok_ne hp
  have hc := (Ra.cmp_eq hp hp).2 rfl
  have CV := Lib.hid (fun W (T : RW W) => Valid_r (Ra.tx (some p)) W T.tab)
  have CC := Lib.hid (fun W (T : RW W) => Compare_r (Ra.tx (some p)) (Ra.tx (some p)) W T.tab)
  have CP := Lib.hid (fun W (T : RW W) => Print_r (Ra.tx (some p)) W T.tab)
  rw [hv] at CV CC CP
  rw [hc] at CC
  rw [show (some p).isSome = true from rfl] at CV
  generalize Ra.prS (some p) = PS at *
  have CM2 := Lib.hid (fun W T => Make_t hp.num hp.den hne (Ra.mk_self hp) W T)
  have hK : ∀ K : Int, K ≠ 0 → K.natAbs ≤ 1000000 → In.Fit K ∧ In.Fit (p.1 * K) ∧ In.Fit (p.2 * K) := fun K _ h => by
    have hk : K.natAbs < 10 ^ 7 := by omega
    exact ⟨In.fit_of hk (by decide), In.fit_of (In.abs_mul hp1 hk) (by decide), In.fit_of (In.abs_mul hp2 hk) (by decide)⟩
  have z0 : In.txt 0 = ⟨#[48]⟩ := ((In.num_some num0).1).symm
  have z1 : In.txt 1 = ⟨#[49]⟩ := ((In.num_some num1).1).symm
  cases sg
  · obtain ⟨k0, k1, k2⟩ := hK (1 + pk) (by omega) (by omega)
    have FI := Lib.hid (fun W => rFromInt_any (1 + pk) W (by omega))
    have M1 := Lib.hid (rMul_t hp.num k0 k1)
    have M2 := Lib.hid (rMul_t hp.den k0 k2)
    have CM1 := Lib.hid (fun W T => Make_t k1 k2 (Int.mul_ne_zero hne (by omega)) (Ra.mk_scale hp (k := (1 + pk)) (by omega)) W T)
    have CM3 := Lib.hid (fun W T => Make_t (x := 0) (by decide) k0 (by omega) (Ra.mk_zero (k := (1 + pk)) (by omega)) W T)
    rw [z0, show Ra.tx (some ((0 : Int), (1 : Int))) = (⟨#[48]⟩, ⟨#[49]⟩) from by rw [← z0, ← z1]; rfl] at CM3
    rw [show Ra.tx (some p) = (In.txt p.1, In.txt p.2) from rfl] at *
    clear k0 k1 k2 hK z0 z1 hv hne hc hp hp1 hp2
    generalize In.txt p.1 = n1 at *
    generalize In.txt p.2 = d1 at *
    generalize In.txt (p.1 * (1 + pk)) = n2 at *
    generalize In.txt (p.2 * (1 + pk)) = d2 at *
    generalize hKK : In.txt (1 + pk) = by1 at *
    clear hKK
    go_wp2_with fail
    refine calls_named fun v3 hq => ?_
    obtain ⟨bR, ebR⟩ : ∃ b, b = w3.heap.size := ⟨_, rfl⟩
    have R := Lib.hid (show Row v3 bR 23 [.string n1, .string d1] from by rw [hq, ebR]; first | exact Row.new _ _ _ | exact ((Row.new w3 23 [.string ⟨#[]⟩, .string ⟨#[]⟩]).set 0 (.string n1)).set 1 (.string d1))
    have hb : Below w3.heap.size w3 v3 := by rw [hq]; first | exact (Below.refl _ _).alloc (Nat.le_refl _) _ | exact (((Below.refl _ _).alloc (Nat.le_refl _) _).setCell (p := ⟨w3.heap.size, 0, none⟩) (Nat.le_refl _) _).setCell (p := ⟨w3.heap.size, 1, none⟩) (Nat.le_refl _) _
    replace HT := Lib.hid (HT.out.next hb)
    replace BB := Lib.hid (Below.andThen BB.out hb)
    rw [← ebR]
    clear hq hb ebR
    with_reducible refine Calls.mono (KF.out _) ?_
    rintro e w' ⟨rfl, rfl⟩
    go_wp2_with fail
    with_reducible refine Calls.mono (FI.out _) ?_
    rintro e w4 ⟨rfl, hb⟩
    replace HT := Lib.hid (HT.out.next hb)
    replace R := Lib.hid (R.out.next hb)
    replace BB := Lib.hid (Below.andThen BB.out hb)
    clear hb
    go_upto_region 7 with (fail)
    obtain ⟨cR0, cR1⟩ := R.out.two
    have lR := R.out.lt
    go_wp2_with fail
    clear cR0 cR1 lR
    with_reducible refine Calls.mono (M1.out _) ?_
    rintro e w5 ⟨rfl, hb⟩
    replace HT := Lib.hid (HT.out.next hb)
    replace R := Lib.hid (R.out.next hb)
    replace BB := Lib.hid (Below.andThen BB.out hb)
    clear hb
    go_upto_region 8 with (fail)
    obtain ⟨cR0, cR1⟩ := R.out.two
    have lR := R.out.lt
    go_wp2_with fail
    clear cR0 cR1 lR
    with_reducible refine Calls.mono (M2.out _) ?_
    rintro e w6 ⟨rfl, hb⟩
    replace HT := Lib.hid (HT.out.next hb)
    replace R := Lib.hid (R.out.next hb)
    replace BB := Lib.hid (Below.andThen BB.out hb)
    clear hb
    go_wp2_with fail
    with_reducible refine Calls.mono (CM1.out _ HT.out) ?_
    rintro e w7 ⟨rfl, hb⟩
    replace HT := Lib.hid (HT.out.next hb)
    replace R := Lib.hid (R.out.next hb)
    replace BB := Lib.hid (Below.andThen BB.out hb)
    clear hb
    go_upto_region 10 with (fail)
    refine wp_named fun v7 hq => ?_
    obtain ⟨bA, ebA⟩ : ∃ b, b = w7.heap.size := ⟨_, rfl⟩
    have A := Lib.hid (show Row v7 bA 23 [.string n1, .string d1] from by rw [hq, ebA]; first | exact Row.new _ _ _ | exact ((Row.new w7 23 [.string ⟨#[]⟩, .string ⟨#[]⟩]).set 0 (.string n1)).set 1 (.string d1))
    have hb : Below w7.heap.size w7 v7 := by rw [hq]; first | exact (Below.refl _ _).alloc (Nat.le_refl _) _ | exact (((Below.refl _ _).alloc (Nat.le_refl _) _).setCell (p := ⟨w7.heap.size, 0, none⟩) (Nat.le_refl _) _).setCell (p := ⟨w7.heap.size, 1, none⟩) (Nat.le_refl _) _
    replace HT := Lib.hid (HT.out.next hb)
    replace R := Lib.hid (R.out.next hb)
    replace BB := Lib.hid (Below.andThen BB.out hb)
    rw [← ebA]
    clear hq hb ebA
    obtain ⟨cR0, cR1⟩ := R.out.two
    have lR := R.out.lt
    go_wp2_with fail
    clear cR0 cR1 lR
    with_reducible refine Calls.mono (CM2.out _ HT.out) ?_
    rintro e w8 ⟨rfl, hb⟩
    replace HT := Lib.hid (HT.out.next hb)
    replace R := Lib.hid (R.out.next hb)
    replace A := Lib.hid (A.out.next hb)
    replace BB := Lib.hid (Below.andThen BB.out hb)
    clear hb
    go_wp2_with fail
    refine calls_named fun v8 hq => ?_
    obtain ⟨bB, ebB⟩ : ∃ b, b = w8.heap.size := ⟨_, rfl⟩
    have B := Lib.hid (show Row v8 bB 23 [.string n1, .string d1] from by rw [hq, ebB]; first | exact Row.new _ _ _ | exact ((Row.new w8 23 [.string ⟨#[]⟩, .string ⟨#[]⟩]).set 0 (.string n1)).set 1 (.string d1))
    have hb : Below w8.heap.size w8 v8 := by rw [hq]; first | exact (Below.refl _ _).alloc (Nat.le_refl _) _ | exact (((Below.refl _ _).alloc (Nat.le_refl _) _).setCell (p := ⟨w8.heap.size, 0, none⟩) (Nat.le_refl _) _).setCell (p := ⟨w8.heap.size, 1, none⟩) (Nat.le_refl _) _
    replace HT := Lib.hid (HT.out.next hb)
    replace R := Lib.hid (R.out.next hb)
    replace A := Lib.hid (A.out.next hb)
    replace BB := Lib.hid (Below.andThen BB.out hb)
    rw [← ebB]
    clear hq hb ebB
    with_reducible refine Calls.mono (CM3.out _ HT.out) ?_
    rintro e w9 ⟨rfl, hb⟩
    replace HT := Lib.hid (HT.out.next hb)
    replace R := Lib.hid (R.out.next hb)
    replace A := Lib.hid (A.out.next hb)
    replace B := Lib.hid (B.out.next hb)
    replace BB := Lib.hid (Below.andThen BB.out hb)
    clear hb
    go_upto_region 12 with (fail)
    refine wp_named fun v9 hq => ?_
    obtain ⟨bZ, ebZ⟩ : ∃ b, b = w9.heap.size := ⟨_, rfl⟩
    have Z := Lib.hid (show Row v9 bZ 23 [.string ⟨#[48]⟩, .string ⟨#[49]⟩] from by rw [hq, ebZ]; first | exact Row.new _ _ _ | exact ((Row.new w9 23 [.string ⟨#[]⟩, .string ⟨#[]⟩]).set 0 (.string ⟨#[48]⟩)).set 1 (.string ⟨#[49]⟩))
    have hb : Below w9.heap.size w9 v9 := by rw [hq]; first | exact (Below.refl _ _).alloc (Nat.le_refl _) _ | exact (((Below.refl _ _).alloc (Nat.le_refl _) _).setCell (p := ⟨w9.heap.size, 0, none⟩) (Nat.le_refl _) _).setCell (p := ⟨w9.heap.size, 1, none⟩) (Nat.le_refl _) _
    replace HT := Lib.hid (HT.out.next hb)
    replace R := Lib.hid (R.out.next hb)
    replace A := Lib.hid (A.out.next hb)
    replace B := Lib.hid (B.out.next hb)
    replace BB := Lib.hid (Below.andThen BB.out hb)
    rw [← ebZ]
    clear hq hb ebZ
    obtain ⟨cR0, cR1⟩ := R.out.two
    have lR := R.out.lt
    obtain ⟨cA0, cA1⟩ := A.out.two
    have lA := A.out.lt
    obtain ⟨cB0, cB1⟩ := B.out.two
    have lB := B.out.lt
    obtain ⟨cZ0, cZ1⟩ := Z.out.two
    have lZ := Z.out.lt
    refine wp_region_kin (by kernel_rfl) (by kernel_rfl) v9.heap.size 0 (by simp) (fun hk => ?_)
    repeat (go_big_quiet_step (first | (go_at_call 41; with_reducible exact Calls.kin (CI.out _ _ _)) | (go_at_call 33; with_reducible exact Calls.kin (CP.out _ (HT.out.next (Kin.below _)))) | (go_at_call 20; with_reducible exact Calls.kin (CC.out _ (HT.out.next (Kin.below _)))) | (go_at_call 29; with_reducible exact Calls.kin (CV.out _ (HT.out.next (Kin.below _))))))
    refine wpQuiet_nil ?_
    clear hk
    intro w10 hb
    have HX := Lib.hid (Below.andThen BB.out hb)
    clear hb
    go_wp2_with fail
    go_ret
    exact ⟨rfl, HX.out⟩
  · obtain ⟨k0, k1, k2⟩ := hK (-(1 + pk)) (by omega) (by omega)
    have FI := Lib.hid (fun W => rFromInt_any (-(1 + pk)) W (by omega))
    have M1 := Lib.hid (rMul_t hp.num k0 k1)
    have M2 := Lib.hid (rMul_t hp.den k0 k2)
    have CM1 := Lib.hid (fun W T => Make_t k1 k2 (Int.mul_ne_zero hne (by omega)) (Ra.mk_scale hp (k := (-(1 + pk))) (by omega)) W T)
    have CM3 := Lib.hid (fun W T => Make_t (x := 0) (by decide) k0 (by omega) (Ra.mk_zero (k := (-(1 + pk))) (by omega)) W T)
    rw [z0, show Ra.tx (some ((0 : Int), (1 : Int))) = (⟨#[48]⟩, ⟨#[49]⟩) from by rw [← z0, ← z1]; rfl] at CM3
    rw [show Ra.tx (some p) = (In.txt p.1, In.txt p.2) from rfl] at *
    clear k0 k1 k2 hK z0 z1 hv hne hc hp hp1 hp2
    generalize In.txt p.1 = n1 at *
    generalize In.txt p.2 = d1 at *
    generalize In.txt (p.1 * (-(1 + pk))) = n2 at *
    generalize In.txt (p.2 * (-(1 + pk))) = d2 at *
    generalize hKK : In.txt (-(1 + pk)) = by1 at *
    clear hKK
    go_wp2_with fail
    refine calls_named fun v3 hq => ?_
    obtain ⟨bR, ebR⟩ : ∃ b, b = w3.heap.size := ⟨_, rfl⟩
    have R := Lib.hid (show Row v3 bR 23 [.string n1, .string d1] from by rw [hq, ebR]; first | exact Row.new _ _ _ | exact ((Row.new w3 23 [.string ⟨#[]⟩, .string ⟨#[]⟩]).set 0 (.string n1)).set 1 (.string d1))
    have hb : Below w3.heap.size w3 v3 := by rw [hq]; first | exact (Below.refl _ _).alloc (Nat.le_refl _) _ | exact (((Below.refl _ _).alloc (Nat.le_refl _) _).setCell (p := ⟨w3.heap.size, 0, none⟩) (Nat.le_refl _) _).setCell (p := ⟨w3.heap.size, 1, none⟩) (Nat.le_refl _) _
    replace HT := Lib.hid (HT.out.next hb)
    replace BB := Lib.hid (Below.andThen BB.out hb)
    rw [← ebR]
    clear hq hb ebR
    with_reducible refine Calls.mono (KF.out _) ?_
    rintro e w' ⟨rfl, rfl⟩
    go_wp2_with fail
    with_reducible refine Calls.mono (FI.out _) ?_
    rintro e w4 ⟨rfl, hb⟩
    replace HT := Lib.hid (HT.out.next hb)
    replace R := Lib.hid (R.out.next hb)
    replace BB := Lib.hid (Below.andThen BB.out hb)
    clear hb
    go_upto_region 7 with (fail)
    obtain ⟨cR0, cR1⟩ := R.out.two
    have lR := R.out.lt
    go_wp2_with fail
    clear cR0 cR1 lR
    with_reducible refine Calls.mono (M1.out _) ?_
    rintro e w5 ⟨rfl, hb⟩
    replace HT := Lib.hid (HT.out.next hb)
    replace R := Lib.hid (R.out.next hb)
    replace BB := Lib.hid (Below.andThen BB.out hb)
    clear hb
    go_upto_region 8 with (fail)
    obtain ⟨cR0, cR1⟩ := R.out.two
    have lR := R.out.lt
    go_wp2_with fail
    clear cR0 cR1 lR
    with_reducible refine Calls.mono (M2.out _) ?_
    rintro e w6 ⟨rfl, hb⟩
    replace HT := Lib.hid (HT.out.next hb)
    replace R := Lib.hid (R.out.next hb)
    replace BB := Lib.hid (Below.andThen BB.out hb)
    clear hb
    go_wp2_with fail
    with_reducible refine Calls.mono (CM1.out _ HT.out) ?_
    rintro e w7 ⟨rfl, hb⟩
    replace HT := Lib.hid (HT.out.next hb)
    replace R := Lib.hid (R.out.next hb)
    replace BB := Lib.hid (Below.andThen BB.out hb)
    clear hb
    go_upto_region 10 with (fail)
    refine wp_named fun v7 hq => ?_
    obtain ⟨bA, ebA⟩ : ∃ b, b = w7.heap.size := ⟨_, rfl⟩
    have A := Lib.hid (show Row v7 bA 23 [.string n1, .string d1] from by rw [hq, ebA]; first | exact Row.new _ _ _ | exact ((Row.new w7 23 [.string ⟨#[]⟩, .string ⟨#[]⟩]).set 0 (.string n1)).set 1 (.string d1))
    have hb : Below w7.heap.size w7 v7 := by rw [hq]; first | exact (Below.refl _ _).alloc (Nat.le_refl _) _ | exact (((Below.refl _ _).alloc (Nat.le_refl _) _).setCell (p := ⟨w7.heap.size, 0, none⟩) (Nat.le_refl _) _).setCell (p := ⟨w7.heap.size, 1, none⟩) (Nat.le_refl _) _
    replace HT := Lib.hid (HT.out.next hb)
    replace R := Lib.hid (R.out.next hb)
    replace BB := Lib.hid (Below.andThen BB.out hb)
    rw [← ebA]
    clear hq hb ebA
    obtain ⟨cR0, cR1⟩ := R.out.two
    have lR := R.out.lt
    go_wp2_with fail
    clear cR0 cR1 lR
    with_reducible refine Calls.mono (CM2.out _ HT.out) ?_
    rintro e w8 ⟨rfl, hb⟩
    replace HT := Lib.hid (HT.out.next hb)
    replace R := Lib.hid (R.out.next hb)
    replace A := Lib.hid (A.out.next hb)
    replace BB := Lib.hid (Below.andThen BB.out hb)
    clear hb
    go_wp2_with fail
    refine calls_named fun v8 hq => ?_
    obtain ⟨bB, ebB⟩ : ∃ b, b = w8.heap.size := ⟨_, rfl⟩
    have B := Lib.hid (show Row v8 bB 23 [.string n1, .string d1] from by rw [hq, ebB]; first | exact Row.new _ _ _ | exact ((Row.new w8 23 [.string ⟨#[]⟩, .string ⟨#[]⟩]).set 0 (.string n1)).set 1 (.string d1))
    have hb : Below w8.heap.size w8 v8 := by rw [hq]; first | exact (Below.refl _ _).alloc (Nat.le_refl _) _ | exact (((Below.refl _ _).alloc (Nat.le_refl _) _).setCell (p := ⟨w8.heap.size, 0, none⟩) (Nat.le_refl _) _).setCell (p := ⟨w8.heap.size, 1, none⟩) (Nat.le_refl _) _
    replace HT := Lib.hid (HT.out.next hb)
    replace R := Lib.hid (R.out.next hb)
    replace A := Lib.hid (A.out.next hb)
    replace BB := Lib.hid (Below.andThen BB.out hb)
    rw [← ebB]
    clear hq hb ebB
    with_reducible refine Calls.mono (CM3.out _ HT.out) ?_
    rintro e w9 ⟨rfl, hb⟩
    replace HT := Lib.hid (HT.out.next hb)
    replace R := Lib.hid (R.out.next hb)
    replace A := Lib.hid (A.out.next hb)
    replace B := Lib.hid (B.out.next hb)
    replace BB := Lib.hid (Below.andThen BB.out hb)
    clear hb
    go_upto_region 12 with (fail)
    refine wp_named fun v9 hq => ?_
    obtain ⟨bZ, ebZ⟩ : ∃ b, b = w9.heap.size := ⟨_, rfl⟩
    have Z := Lib.hid (show Row v9 bZ 23 [.string ⟨#[48]⟩, .string ⟨#[49]⟩] from by rw [hq, ebZ]; first | exact Row.new _ _ _ | exact ((Row.new w9 23 [.string ⟨#[]⟩, .string ⟨#[]⟩]).set 0 (.string ⟨#[48]⟩)).set 1 (.string ⟨#[49]⟩))
    have hb : Below w9.heap.size w9 v9 := by rw [hq]; first | exact (Below.refl _ _).alloc (Nat.le_refl _) _ | exact (((Below.refl _ _).alloc (Nat.le_refl _) _).setCell (p := ⟨w9.heap.size, 0, none⟩) (Nat.le_refl _) _).setCell (p := ⟨w9.heap.size, 1, none⟩) (Nat.le_refl _) _
    replace HT := Lib.hid (HT.out.next hb)
    replace R := Lib.hid (R.out.next hb)
    replace A := Lib.hid (A.out.next hb)
    replace B := Lib.hid (B.out.next hb)
    replace BB := Lib.hid (Below.andThen BB.out hb)
    rw [← ebZ]
    clear hq hb ebZ
    obtain ⟨cR0, cR1⟩ := R.out.two
    have lR := R.out.lt
    obtain ⟨cA0, cA1⟩ := A.out.two
    have lA := A.out.lt
    obtain ⟨cB0, cB1⟩ := B.out.two
    have lB := B.out.lt
    obtain ⟨cZ0, cZ1⟩ := Z.out.two
    have lZ := Z.out.lt
    refine wp_region_kin (by kernel_rfl) (by kernel_rfl) v9.heap.size 0 (by simp) (fun hk => ?_)
    repeat (go_big_quiet_step (first | (go_at_call 41; with_reducible exact Calls.kin (CI.out _ _ _)) | (go_at_call 33; with_reducible exact Calls.kin (CP.out _ (HT.out.next (Kin.below _)))) | (go_at_call 20; with_reducible exact Calls.kin (CC.out _ (HT.out.next (Kin.below _)))) | (go_at_call 29; with_reducible exact Calls.kin (CV.out _ (HT.out.next (Kin.below _))))))
    refine wpQuiet_nil ?_
    clear hk
    intro w10 hb
    have HX := Lib.hid (Below.andThen BB.out hb)
    clear hb
    go_wp2_with fail
    go_ret
    exact ⟨rfl, HX.out⟩
namespace rationalLowest
theorem flat0 : leafsOf Tryz.prog 5 24 = some [some (some .i64), some (some .i64), some (some .i64), some (some .i64)] := by kernel_rfl
set_option maxRecDepth 100000 in
theorem contract (H : Type) (enc : TypeId × Value → H) (W : World) (base : Nat) (args : Array Value) (ds gs : List (DataW H)) (before : List MemPlace)
    (hval : ∀ (j : Nat) t v, Tryz.f9.params[j]? = some t → args[j]? = some v → Value.okWide Tryz.prog W .any base t v)
    (hW : DataW.Whole enc Tryz.prog Tryz.f9.params.toList Rows.rationalLowestSpec.vars false W args.toList ds gs before) (hL : laidMetH Tryz.prog Rows.rationalLowestRow.laid W) (hsh : W.ShapedOpen Tryz.prog) :
    Calls Tryz.prog 9 args W fun e W' => ∃ v, e = .returned v ∧ Rows.rationalLowestSpec.post enc Tryz.prog Tryz.f9 false true false false W args v W' := by
  have hW' := hW
  obtain ⟨p, q, hA0, hV, rfl, hfz, hnd⟩ := hW
  have hA : DataW.TrodAll enc Tryz.prog W 0 (fun _ => true) true Tryz.f9.params.toList args.toList ds p := hA0
  rw [Tryz.params9] at hA hval
  obtain ⟨v0, vs0, d0, ds0, p0, q0, hargs, rfl, rfl, h0, r0⟩ := trodAll_cons hA
  obtain ⟨v1, vs1, d1, ds1, p1, q1, rfl, rfl, rfl, h1, r1⟩ := trodAll_cons r0
  obtain ⟨v2, vs2, d2, ds2, p2, q2, rfl, rfl, rfl, h2, r2⟩ := trodAll_cons r1
  obtain ⟨rfl, rfl, rfl⟩ := trodAll_nil r2
  obtain rfl : args = #[v0, v1, v2] := by cases args; simp_all
  obtain ⟨cs0, rfl, c0x0, rs0x0, rfl, ⟨a0, rfl, k0⟩, c0x1, rs0x1, rfl, ⟨a1, rfl, k1⟩, c0x2, rs0x2, rfl, ⟨a2, rfl, k2⟩, c0x3, rs0x3, rfl, ⟨a3, rfl, k3⟩, rfl⟩ := open_agg 5 flat0 (by kernel_rfl) (hval 0 _ _ rfl rfl) h0
  obtain ⟨a4, rfl, rfl, rfl, k4⟩ := open_int Tryz.underlying3 (hval 1 _ _ rfl rfl) h1
  obtain ⟨a5, rfl, rfl, rfl⟩ := open_bool Tryz.underlying4 (hval 2 _ _ rfl rfl) h2
  refine (rationalLowest_law a0 a1 a2 a3 a4 a5 W (rwT hL hsh) (bd_i64 k0) (bd_i64 k1) (bd_i64 k2) (bd_i64 k3) (bd_i64 k4)).mono fun e W' ⟨he, hb⟩ => ?_
  subst he
  obtain ⟨rfl, _⟩ := trodVars_none hV
  exact ⟨_, rfl, law_post laidOut (by kernel_rfl) rfl (by kernel_rfl) Tryz.underlying4 hW' rfl hb⟩

noncomputable def laidWorld (os : Os) : World := World.laidAll Tryz.prog os Rows.rationalLowestRow.laid
def args0 : Array Value := #[.agg #[.int .i64 0, .int .i64 0, .int .i64 0, .int .i64 0], .int .i64 0, .bool false]
theorem laid_met (os : Os) : laidMet Tryz.prog Rows.rationalLowestRow.laid ((laidWorld os).forCall (fun _ _ => 0) ⟨#[], args0, []⟩).memory :=
  laidMet_laidAll _ (by kernel_rfl) (by kernel_rfl)
theorem reads (os : Os) {H : Type} (enc : TypeId × Value → H) : ∃ places, DataW.whole enc Tryz.prog ((laidWorld os).forCall (fun _ _ => 0) ⟨#[], args0, []⟩).memory Tryz.f9.params.toList Rows.rationalLowestSpec.vars false args0.toList 8 = some ([.agg [.lit (.int .i64 0), .lit (.int .i64 0), .lit (.int .i64 0), .lit (.int .i64 0)], .lit (.int .i64 0), .lit (.bool false)], [], places) :=
  ⟨[], by kernel_rfl⟩

set_option maxRecDepth 100000 in
theorem lifted (os : Os) (started : os.Started) (H : Type) (enc : TypeId × Value → H) (F : Stop.Interp) :
    ReturnsInHanded {} Tryz.checked os 9 .any ((OpenSpec.ofChange Rows.rationalLowestSpec).preRow enc Tryz.prog Tryz.f9 Rows.rationalLowestRow.domain false Rows.rationalLowestRow.laid) (((OpenSpec.ofChange Rows.rationalLowestSpec).at F).post enc Tryz.prog Tryz.f9 false true false false) := by
  obtain ⟨places, hx⟩ := reads os enc
  refine returnsInHanded_of_row (C := Tryz.checked) (s := OpenSpec.ofChange Rows.rationalLowestSpec) own started (by kernel_rfl) Tryz.func9
    (witness_row_at (enc := enc) (C := Tryz.checked) false (laidWorld os) args0 (World.laidAll_os _ _ _) (by kernel_rfl) (by kernel_rfl) (by kernel_rfl)
      (OpenSpec.preRow_of_cond 8 hx (by kernel_rfl) (fun k hk => by cases hk) (by kernel_rfl) (laid_met os))) ?_
  intro W base args ds gs before hval hW _ _ _ hL hsh _
  exact contract H enc W base args ds gs before hval hW hL hsh

theorem said : Rows.RationalLowestSaid :=
  OpenClaim.holds_of_cond 9 Tryz.f9 rfl rfl rfl rfl rfl rfl rfl ⟨rfl, rfl, rfl, rfl, rfl⟩ rfl rfl rfl rfl rfl (by kernel_rfl) Tryz.func9 (by kernel_rfl)
    (of_decide_eq_true (by kernel_rfl)) (by unfold Func.isWrapper; first | (rw [if_pos (by decide +kernel)]; kernel_rfl) | (rw [if_neg (by decide +kernel)]; exact ⟨rfl, rfl⟩))
    (fun os started H enc _ F => by rw [OpenClaim.pre_eq_preRow]; exact lifted os started H enc F)

theorem plain (f : FuncId) (fn : Func) (hf : Tryz.pinned.checked.prog.funcNamed "newswire/newswirelaw04.RationalLowest" = some f) (hfn : Tryz.pinned.checked.prog.funcs[f]? = some fn) :
    false = Tryz.pinned.checked.prog.looks [] ∧ ∀ (j : Nat) t, fn.params[j]? = some t → Tryz.pinned.checked.prog.wantsStandIn t = false := by
  obtain rfl : f = 9 := Option.some.inj ((show Tryz.prog.funcNamed "newswire/newswirelaw04.RationalLowest" = some 9 by kernel_rfl).symm.trans hf) |>.symm
  obtain rfl : fn = Tryz.f9 := (Option.some.inj (Tryz.func9.symm.trans hfn)).symm
  refine ⟨by kernel_rfl, fun j t ht => ?_⟩
  have all : (Tryz.f9.params.toList.all fun t => Tryz.prog.wantsStandIn t == false) = true := by kernel_rfl
  have := List.all_eq_true.1 all t (by rw [← Array.mem_def]; exact Array.mem_of_getElem? ht)
  exact (show Tryz.prog.wantsStandIn t = false by simpa using this)

/-- The statement. -/
theorem card : Rows.RationalLowestCardSaid :=
  Claim7.holds_tied_plain_at .later [] _ _ _ _ said (fun _ h => by cases h) (by kernel_rfl) (fun _ h => by cases h) rationalLowest_row_tie rfl ⟨rfl, rfl⟩ (by kernel_rfl) rfl plain (by kernel_rfl)
end rationalLowest
end Go.Proofs.YtlehjmanlccncaaGreatDoor
