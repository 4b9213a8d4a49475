/- For every input, RationalMatchesReference returns true; the listed tables hold what the program's text lays. -/
import Derived.Test.YtlehjmanlccncaaGreatDoorRatQC
import Derived.Test.YtlehjmanlccncaaGreatDoorRatCut
import Derived.Test.YtlehjmanlccncaaGreatDoorRatRF
import Derived.Test.YtlehjmanlccncaaGreatDoorRatRG
import Derived.Test.YtlehjmanlccncaaGreatDoorRatEq
import Derived.Deep.RegionHeld3
set_option linter.unusedVariables false
set_option linter.unusedSimpArgs false
namespace Go.Proofs.YtlehjmanlccncaaGreatDoor
open Go.RowKit Go.ChangeShapes Go.WideShapes Go.ChangeAt

attribute [local go_sem high] eq_rats eq_errs
def SinceR (v w : World) : Prop := Below v.heap.size v w
theorem SinceR.next {v w w' : World} (h : SinceR v w) (hb : Below w.heap.size w w') : SinceR v w' := Below.andThen h hb
theorem rows5 (w : World) (t0 t1 t2 t3 t4 : TypeId) (C0 C1 C2 C3 C4 : List Value) (W : World)
    (e : W = ((((w.alloc (.cells C0.toArray t0)).alloc (.cells C1.toArray t1)).alloc (.cells C2.toArray t2)).alloc (.cells C3.toArray t3)).alloc (.cells C4.toArray t4)) :
    Row W w.heap.size t0 C0 ∧ Row W (w.heap.size + 1) t1 C1 ∧ Row W (w.heap.size + 1 + 1) t2 C2 ∧ Row W (w.heap.size + 1 + 1 + 1) t3 C3 ∧ Row W (w.heap.size + 1 + 1 + 1 + 1) t4 C4 ∧ Below w.heap.size w W := by
  subst e
  have h0 := Row.new w t0 C0
  have h1 := Row.new (w.alloc (.cells C0.toArray t0)) t1 C1
  have h2 := Row.new ((w.alloc (.cells C0.toArray t0)).alloc (.cells C1.toArray t1)) t2 C2
  have h3 := Row.new (((w.alloc (.cells C0.toArray t0)).alloc (.cells C1.toArray t1)).alloc (.cells C2.toArray t2)) t3 C3
  have h4 := Row.new ((((w.alloc (.cells C0.toArray t0)).alloc (.cells C1.toArray t1)).alloc (.cells C2.toArray t2)).alloc (.cells C3.toArray t3)) t4 C4
  simp only [World.size_alloc] at h1 h2 h3 h4
  exact ⟨(((h0.alloc _).alloc _).alloc _).alloc _, ((h1.alloc _).alloc _).alloc _, (h2.alloc _).alloc _, h3.alloc _, h4, by (repeat' first | exact Below.refl _ _ | assumption | (refine below_drewN ?_ _) | (refine Below.drew ?_) | (refine Below.alloc ?_ ?_ _) | (refine Below.setCell ?_ ?_ _) | (simp; done) | (simp; omega) | omega)⟩
/-- the row of five fractions -/
def Five (w : World) (b : Nat) (A : Nat → ByteArray × ByteArray) : Prop := ∃ C, Row w b 23 C ∧ ∀ i, i < 5 → C[i * 2]? = some (.string (A i).1) ∧ C[i * 2 + 1]? = some (.string (A i).2)
theorem Five.next {w w' : World} {b : Nat} {A : Nat → ByteArray × ByteArray} (h : Five w b A) (hb : Below w.heap.size w w') : Five w' b A := by
  obtain ⟨C, r, k⟩ := h
  exact ⟨C, r.next hb, k⟩
theorem Five.at {w : World} {b : Nat} {A : Nat → ByteArray × ByteArray} (h : Five w b A) {i : Nat} (hi : i < 5) : w.cell? ⟨b, i * 2, none⟩ = some (.string (A i).1) ∧ w.cell? ⟨b, i * 2 + 1, none⟩ = some (.string (A i).2) ∧ b < w.heap.size := by
  obtain ⟨C, r, k⟩ := h
  exact ⟨(r.cell _).trans (k i hi).1, (r.cell _).trans (k i hi).2, r.lt⟩
set_option maxRecDepth 100000 in
set_option maxHeartbeats 16000000 in
theorem rationalMatches_law (x1 x2 y1 y2 : ByteArray) (l0 l1 l2 l3 m0 m1 m2 m3 s0 s1 n d pl : Int) (w : World) (T : RW w) (gx1 : x1.size ≤ maxLen) (gx2 : x2.size ≤ maxLen) (gy1 : y1.size ≤ maxLen) (gy2 : y2.size ≤ maxLen)
    (hl0 : -9223372036854775808 ≤ l0 ∧ l0 ≤ 9223372036854775807)
    (hl1 : -9223372036854775808 ≤ l1 ∧ l1 ≤ 9223372036854775807)
    (hl2 : -9223372036854775808 ≤ l2 ∧ l2 ≤ 9223372036854775807)
    (hl3 : -9223372036854775808 ≤ l3 ∧ l3 ≤ 9223372036854775807)
    (hm0 : -9223372036854775808 ≤ m0 ∧ m0 ≤ 9223372036854775807)
    (hm1 : -9223372036854775808 ≤ m1 ∧ m1 ≤ 9223372036854775807)
    (hm2 : -9223372036854775808 ≤ m2 ∧ m2 ≤ 9223372036854775807)
    (hm3 : -9223372036854775808 ≤ m3 ∧ m3 ≤ 9223372036854775807)
    (hs0 : -9223372036854775808 ≤ s0 ∧ s0 ≤ 9223372036854775807)
    (hs1 : -9223372036854775808 ≤ s1 ∧ s1 ≤ 9223372036854775807)
    (hn : -9223372036854775808 ≤ n ∧ n ≤ 9223372036854775807)
    (hd : -9223372036854775808 ≤ d ∧ d ≤ 9223372036854775807)
    (hpl : -9223372036854775808 ≤ pl ∧ pl ≤ 9223372036854775807)
    : Calls Tryz.prog 3 #[.agg #[.string x1, .string x2], .agg #[.string y1, .string y2], .agg #[.int .i64 l0, .int .i64 l1, .int .i64 l2, .int .i64 l3], .agg #[.int .i64 m0, .int .i64 m1, .int .i64 m2, .int .i64 m3], .agg #[.int .i64 s0, .int .i64 s1], .int .i64 n, .int .i64 d, .int .i64 pl] w fun r w' => r = .returned (.bool true) ∧ Below w.heap.size w w' := by
  have HT := Lib.hid T
  have HT0 := Lib.hid T
  have BB := Lib.hid (Below.refl w.heap.size w)
  have HS := Lib.hid sane_any
  have CC1 := Lib.hid (fun W => cut_r (x1, x2) W)
  have CC2 := Lib.hid (fun W => cut_r (y1, y2) W)
  have CL := Lib.hid (fun W => Long_any l0 l1 l2 l3 W hl0 hl1 hl2 hl3)
  have CM := Lib.hid (fun W => Long_any m0 m1 m2 m3 W hm0 hm1 hm2 hm3)
  have CS := Lib.hid (fun W => Small_any s0 s1 W hs0 hs1)
  have okt := (small_ok s0 s1).1
  have KP := Lib.hid (fun W => pick_r pl 32 W (by decide) hpl.1 hpl.2)
  have CO1 := Lib.hid (fun W (T : RW W) => Of_r n d W hn hd T.tab)
  have CO2 := Lib.hid (fun W => rOf_r n d W hn hd)
  obtain ⟨o1, o2, oe, ho⟩ := res_parts (Ra.redO True n d)
  rw [ho] at CO1 CO2
  have hx1 := cutB_size x1 (n := 210) (by decide)
  have hx2 := cutB_size x2 (n := 210) (by decide)
  have hy1 := cutB_size y1 (n := 210) (by decide)
  have hy2 := cutB_size y2 (n := 210) (by decide)
  generalize cutB x1 210 = g1 at *
  generalize cutB x2 210 = g2 at *
  generalize cutB y1 210 = k1 at *
  generalize cutB y2 210 = k2 at *
  generalize smallP s0 s1 = t at *
  generalize pickZ pl 32 = pz at *
  clear gx1 gx2 gy1 gy2 T hl0 hl1 hl2 hl3 hm0 hm1 hm2 hm3 hs0 hs1 ho hn hd hpl
  go_enter Tryz.func3, Tryz.ntmps3
  go_upto_region 1 with (fail)
  refine wp_named fun w1 hq => ?_
  obtain ⟨r0, r1, r2, r3, r4, hb⟩ := rows5 w 23 23 24 24 25 [.string x1, .string x2] [.string y1, .string y2] [.int .i64 l0, .int .i64 l1, .int .i64 l2, .int .i64 l3] [.int .i64 m0, .int .i64 m1, .int .i64 m2, .int .i64 m3] [.int .i64 s0, .int .i64 s1] w1 hq
  have X := Lib.hid r0
  have Y := Lib.hid r1
  have L := Lib.hid r2
  have M := Lib.hid r3
  have S := Lib.hid r4
  obtain ⟨bX, ebX⟩ : ∃ b, b = w.heap.size := ⟨_, rfl⟩
  obtain ⟨bY, ebY⟩ : ∃ b, b = w.heap.size + 1 := ⟨_, rfl⟩
  obtain ⟨bL, ebL⟩ : ∃ b, b = w.heap.size + 1 + 1 := ⟨_, rfl⟩
  obtain ⟨bM, ebM⟩ : ∃ b, b = w.heap.size + 1 + 1 + 1 := ⟨_, rfl⟩
  obtain ⟨bS, ebS⟩ : ∃ b, b = w.heap.size + 1 + 1 + 1 + 1 := ⟨_, rfl⟩
  rw [← ebS] at S
  rw [← ebM] at M
  rw [← ebL] at L
  rw [← ebY] at Y
  rw [← ebX] at X
  rw [← ebS, ← ebM, ← ebL, ← ebY, ← ebX]
  have NE := Lib.hid (show (bY ≠ bX ∧ bL ≠ bX ∧ bM ≠ bX ∧ bS ≠ bX) ∧ (bX ≠ bY ∧ bL ≠ bY ∧ bM ≠ bY ∧ bS ≠ bY) from by omega)
  have HLX := Lib.hid (show w.heap.size ≤ bX by omega)
  have HLY := Lib.hid (show w.heap.size ≤ bY by omega)
  replace HT := Lib.hid (HT.out.next hb)
  replace BB := Lib.hid (Below.andThen BB.out hb)
  clear hq hb ebX ebY ebL ebM ebS r0 r1 r2 r3 r4
  go_wp2_with fail
  with_reducible refine Calls.mono (HS.out _ HT.out) ?_
  rintro e w2 ⟨rfl, hb⟩
  replace HT := Lib.hid (HT.out.next hb)
  replace X := Lib.hid (X.out.next hb)
  replace Y := Lib.hid (Y.out.next hb)
  replace L := Lib.hid (L.out.next hb)
  replace M := Lib.hid (M.out.next hb)
  replace S := Lib.hid (S.out.next hb)
  replace BB := Lib.hid (Below.andThen BB.out hb)
  clear hb
  go_upto_region 2 with (fail)
  obtain ⟨cX0, cX1⟩ := X.out.two
  have lX := X.out.lt
  go_wp2_with fail
  clear cX0 cX1 lX
  with_reducible refine Calls.mono (CC1.out _) ?_
  rintro e w3 ⟨rfl, hb⟩
  replace HT := Lib.hid (HT.out.next hb)
  replace X := Lib.hid (X.out.next hb)
  replace Y := Lib.hid (Y.out.next hb)
  replace L := Lib.hid (L.out.next hb)
  replace M := Lib.hid (M.out.next hb)
  replace S := Lib.hid (S.out.next hb)
  replace BB := Lib.hid (Below.andThen BB.out hb)
  clear hb
  obtain ⟨cX0, cX1⟩ := X.out.two
  have lX := X.out.lt
  have f0 := X.out.frozen 0
  have f1 := X.out.frozen 1
  go_upto_region 3 with (fail)
  clear f0 f1
  clear cX0 cX1 lX
  refine wp_named fun v3 hq => ?_
  replace Y := Lib.hid (show Row v3 bY _ _ from by rw [hq]; exact (Y.out.other NE.out.1.1 _ _).other NE.out.1.1 _ _)
  replace L := Lib.hid (show Row v3 bL _ _ from by rw [hq]; exact (L.out.other NE.out.1.2.1 _ _).other NE.out.1.2.1 _ _)
  replace M := Lib.hid (show Row v3 bM _ _ from by rw [hq]; exact (M.out.other NE.out.1.2.2.1 _ _).other NE.out.1.2.2.1 _ _)
  replace S := Lib.hid (show Row v3 bS _ _ from by rw [hq]; exact (S.out.other NE.out.1.2.2.2 _ _).other NE.out.1.2.2.2 _ _)
  replace X := Lib.hid (show Row v3 bX 23 [.string g1, .string g2] from by rw [hq]; exact (X.out.set 0 (.string g1)).set 1 (.string g2))
  replace BB := Lib.hid (show Below w.heap.size w v3 from by rw [hq]; exact (BB.out.setCell (p := ⟨bX, 0, none⟩) HLX.out _).setCell (p := ⟨bX, 1, none⟩) HLX.out _)
  clear hq HT
  have HT := Lib.hid (HT0.out.next BB.out)
  obtain ⟨cY0, cY1⟩ := Y.out.two
  have lY := Y.out.lt
  go_wp2_with fail
  clear cY0 cY1 lY
  with_reducible refine Calls.mono (CC2.out _) ?_
  rintro e w4 ⟨rfl, hb⟩
  replace HT := Lib.hid (HT.out.next hb)
  replace X := Lib.hid (X.out.next hb)
  replace Y := Lib.hid (Y.out.next hb)
  replace L := Lib.hid (L.out.next hb)
  replace M := Lib.hid (M.out.next hb)
  replace S := Lib.hid (S.out.next hb)
  replace BB := Lib.hid (Below.andThen BB.out hb)
  clear hb
  obtain ⟨cY0, cY1⟩ := Y.out.two
  have lY := Y.out.lt
  have f0 := Y.out.frozen 0
  have f1 := Y.out.frozen 1
  go_upto_region 4 with (fail)
  clear f0 f1
  clear cY0 cY1 lY
  refine wp_named fun v4 hq => ?_
  replace X := Lib.hid (show Row v4 bX _ _ from by rw [hq]; exact (X.out.other NE.out.2.1 _ _).other NE.out.2.1 _ _)
  replace L := Lib.hid (show Row v4 bL _ _ from by rw [hq]; exact (L.out.other NE.out.2.2.1 _ _).other NE.out.2.2.1 _ _)
  replace M := Lib.hid (show Row v4 bM _ _ from by rw [hq]; exact (M.out.other NE.out.2.2.2.1 _ _).other NE.out.2.2.2.1 _ _)
  replace S := Lib.hid (show Row v4 bS _ _ from by rw [hq]; exact (S.out.other NE.out.2.2.2.2 _ _).other NE.out.2.2.2.2 _ _)
  replace Y := Lib.hid (show Row v4 bY 23 [.string k1, .string k2] from by rw [hq]; exact (Y.out.set 0 (.string k1)).set 1 (.string k2))
  replace BB := Lib.hid (show Below w.heap.size w v4 from by rw [hq]; exact (BB.out.setCell (p := ⟨bY, 0, none⟩) HLY.out _).setCell (p := ⟨bY, 1, none⟩) HLY.out _)
  clear hq HT
  have HT := Lib.hid (HT0.out.next BB.out)
  clear HS CC1 CC2
  obtain ⟨u1, u2, et⟩ : ∃ u1 u2, Ra.tx (some t) = (u1, u2) := ⟨_, _, rfl⟩
  have hu : u1.size ≤ 210 ∧ u2.size ≤ 210 := by
    have h1 := num_size (In.num_fit okt.num)
    have h2 := num_size (In.num_fit okt.den)
    obtain ⟨e1, e2⟩ := Prod.mk.inj et
    rw [← e1, ← e2]
    exact ⟨by omega, by omega⟩
  rw [et] at CS
  have CELLS := Lib.hid (fun (W : World) (h : Below v4.heap.size v4 W) => show W.cell? ⟨bX, 0, none⟩ = some (.string g1) ∧ W.cell? ⟨bX, 1, none⟩ = some (.string g2) ∧ W.cell? ⟨bY, 0, none⟩ = some (.string k1) ∧ W.cell? ⟨bY, 1, none⟩ = some (.string k2) ∧
      W.cell? ⟨bL, 0, none⟩ = some (.int .i64 l0) ∧ W.cell? ⟨bL, 1, none⟩ = some (.int .i64 l1) ∧ W.cell? ⟨bL, 2, none⟩ = some (.int .i64 l2) ∧ W.cell? ⟨bL, 3, none⟩ = some (.int .i64 l3) ∧
      W.cell? ⟨bM, 0, none⟩ = some (.int .i64 m0) ∧ W.cell? ⟨bM, 1, none⟩ = some (.int .i64 m1) ∧ W.cell? ⟨bM, 2, none⟩ = some (.int .i64 m2) ∧ W.cell? ⟨bM, 3, none⟩ = some (.int .i64 m3) ∧
      W.cell? ⟨bS, 0, none⟩ = some (.int .i64 s0) ∧ W.cell? ⟨bS, 1, none⟩ = some (.int .i64 s1) from
    ⟨(X.out.next h).cell 0, (X.out.next h).cell 1, (Y.out.next h).cell 0, (Y.out.next h).cell 1, (L.out.next h).cell 0, (L.out.next h).cell 1, (L.out.next h).cell 2, (L.out.next h).cell 3, (M.out.next h).cell 0, (M.out.next h).cell 1, (M.out.next h).cell 2, (M.out.next h).cell 3, (S.out.next h).cell 0, (S.out.next h).cell 1⟩)
  have hB0 : Below v4.heap.size v4 v4 := Below.refl _ _
  obtain ⟨c0, c1, c2, c3, c4, c5, c6, c7, c8, c9, c10, c11, c12, c13⟩ := CELLS.out v4 hB0
  have lX := X.out.lt
  have lY := Y.out.lt
  have lL := L.out.lt
  have lM := M.out.lt
  have lS := S.out.lt
  (go_region_held3 (fun W => W.cell? ⟨bX, 0, none⟩ = some (.string g1) ∧ W.cell? ⟨bX, 1, none⟩ = some (.string g2) ∧ W.cell? ⟨bY, 0, none⟩ = some (.string k1) ∧ W.cell? ⟨bY, 1, none⟩ = some (.string k2) ∧
      W.cell? ⟨bL, 0, none⟩ = some (.int .i64 l0) ∧ W.cell? ⟨bL, 1, none⟩ = some (.int .i64 l1) ∧ W.cell? ⟨bL, 2, none⟩ = some (.int .i64 l2) ∧ W.cell? ⟨bL, 3, none⟩ = some (.int .i64 l3) ∧
      W.cell? ⟨bM, 0, none⟩ = some (.int .i64 m0) ∧ W.cell? ⟨bM, 1, none⟩ = some (.int .i64 m1) ∧ W.cell? ⟨bM, 2, none⟩ = some (.int .i64 m2) ∧ W.cell? ⟨bM, 3, none⟩ = some (.int .i64 m3) ∧
      W.cell? ⟨bS, 0, none⟩ = some (.int .i64 s0) ∧ W.cell? ⟨bS, 1, none⟩ = some (.int .i64 s1)) (first | exact ⟨by assumption, by assumption, by assumption, by assumption, by assumption, by assumption, by assumption, by assumption, by assumption, by assumption, by assumption, by assumption, by assumption, by assumption⟩ | exact CELLS.out _ ((by assumption : Below v4.heap.size v4 _).alloc (by assumption : Below v4.heap.size v4 _).size _) | go_keep)
    (first
      | (go_at_call 13
         first
          | (with_reducible refine Calls.mono (CL.out _) ?_
             rintro e w5 ⟨p, rfl, hp, -, -, hb5⟩
             have hB5 := Below.andThen (by first | assumption | exact Below.drew (by assumption) : Below v4.heap.size v4 _) hb5
             obtain ⟨c50, c51, c52, c53, c54, c55, c56, c57, c58, c59, c510, c511, c512, c513⟩ := CELLS.out w5 hB5)
          | (with_reducible refine Calls.mono (CM.out _) ?_
             rintro e w6 ⟨q, rfl, hqq, -, -, hb6⟩
             have hB6 := Below.andThen (by first | assumption | exact Below.drew (by assumption) : Below v4.heap.size v4 _) hb6
             obtain ⟨c60, c61, c62, c63, c64, c65, c66, c67, c68, c69, c610, c611, c612, c613⟩ := CELLS.out w6 hB6))
      | (go_at_call 14
         with_reducible refine Calls.mono (CS.out _) ?_
         rintro e w7 ⟨rfl, hb7⟩
         have hB7 := Below.andThen (by first | assumption | exact Below.drew (by assumption) : Below v4.heap.size v4 _) hb7
         obtain ⟨c70, c71, c72, c73, c74, c75, c76, c77, c78, c79, c710, c711, c712, c713⟩ := CELLS.out w7 hB7)))
  all_goals
    generalize hq : World.alloc w7 _ = v5
    obtain ⟨bZ, ebZ⟩ : ∃ b, b = w7.heap.size := ⟨_, rfl⟩
    have L0 := Lib.hid (show Row v5 bZ 23 [.string g1, .string g2, .string k1, .string k2, .string (Ra.tx (some p)).1, .string (Ra.tx (some p)).2, .string (Ra.tx (some q)).1, .string (Ra.tx (some q)).2, .string u1, .string u2] from by rw [← hq, ebZ]; exact Row.new _ _ _)
    have hb : Below v4.heap.size v4 v5 := by rw [← hq]; exact hB7.alloc hB7.size _
    rw [← ebZ]
    clear hq ebZ CELLS hB0 hB5 hB6 hB7 hb5 hb6 hb7 CL CM CS X Y L M S lX lY lL lM lS NE HLX HLY
    clear c0 c50 c60 c70
    clear c1 c51 c61 c71
    clear c2 c52 c62 c72
    clear c3 c53 c63 c73
    clear c4 c54 c64 c74
    clear c5 c55 c65 c75
    clear c6 c56 c66 c76
    clear c7 c57 c67 c77
    clear c8 c58 c68 c78
    clear c9 c59 c69 c79
    clear c10 c510 c610 c710
    clear c11 c511 c611 c711
    clear c12 c512 c612 c712
    clear c13 c513 c613 c713
    replace HT := Lib.hid (HT.out.next hb)
    replace BB := Lib.hid (Below.andThen BB.out hb)
    clear hb
    obtain ⟨A, hA, hAS⟩ : ∃ A : Nat → ByteArray × ByteArray, Five v5 bZ A ∧ ∀ i, i < 5 → (A i).1.size ≤ maxLen ∧ (A i).2.size ≤ maxLen := by
      refine ⟨fun i => [(g1, g2), (k1, k2), Ra.tx (some p), Ra.tx (some q), (u1, u2)].getD i (g1, g2), ⟨_, L0.out, ?_⟩, ?_⟩
      · intro i hi
        have h5 : i = 0 ∨ i = 1 ∨ i = 2 ∨ i = 3 ∨ i = 4 := by omega
        rcases h5 with rfl | rfl | rfl | rfl | rfl <;> exact ⟨rfl, rfl⟩
      · have s1 := num_size (In.num_fit hp.num)
        have s2 := num_size (In.num_fit hp.den)
        have s3 := num_size (In.num_fit hqq.num)
        have s4 := num_size (In.num_fit hqq.den)
        intro i hi
        have h5 : i = 0 ∨ i = 1 ∨ i = 2 ∨ i = 3 ∨ i = 4 := by omega
        rcases h5 with rfl | rfl | rfl | rfl | rfl
        · exact ⟨Nat.le_trans (show (g1).size ≤ 1000 by omega) (by decide), Nat.le_trans (show (g2).size ≤ 1000 by omega) (by decide)⟩
        · exact ⟨Nat.le_trans (show (k1).size ≤ 1000 by omega) (by decide), Nat.le_trans (show (k2).size ≤ 1000 by omega) (by decide)⟩
        · exact ⟨Nat.le_trans (show (In.txt p.1).size ≤ 1000 by omega) (by decide), Nat.le_trans (show (In.txt p.2).size ≤ 1000 by omega) (by decide)⟩
        · exact ⟨Nat.le_trans (show (In.txt q.1).size ≤ 1000 by omega) (by decide), Nat.le_trans (show (In.txt q.2).size ≤ 1000 by omega) (by decide)⟩
        · exact ⟨Nat.le_trans (show (u1).size ≤ 1000 by omega) (by decide), Nat.le_trans (show (u2).size ≤ 1000 by omega) (by decide)⟩
    have HAS := Lib.hid hAS
    have LL := Lib.hid hA
    clear hA hAS L0 hx1 hx2 hy1 hy2 hu et hp hqq okt
    repeat (rename _ ∧ _ => zz; clear zz)
    obtain ⟨z1, z2, ez⟩ : ∃ z1 z2, A 0 = (z1, z2) := ⟨_, _, rfl⟩
    have EZ := Lib.hid ez
    clear ez
    go_wp2_with fail
    go_loopw [19] (fun iv wr => ∃ i : Nat, i ≤ 5 ∧ iv = .int .i64 i ∧ Below v5.heap.size v5 wr) (fun iv _ => 5 - (intOf iv).toNat)
    case atStart => exact ⟨0, by omega, rfl, Below.refl _ _⟩
    case round =>
      obtain ⟨i, hi, rfl, hb0⟩ := hrel
      have HB0 := Lib.hid (show SinceR v5 _ from hb0)
      have hb := hb0
      clear hb0
      replace HT := Lib.hid (HT.out.next hb)
      replace LL := Lib.hid (LL.out.next hb)
      replace BB := Lib.hid (Below.andThen BB.out hb)
      clear hb
      rename World => wq
      rcases (show i = 5 ∨ i < 5 by omega) with rfl | hi5
      · rw [show ((5 : Nat) : Int) = 5 from rfl]
        clear LL HAS EZ KP HB0
        go_wp2_with fail
        with_reducible refine Calls.mono (CO1.out _ HT.out) ?_
        rintro e w21 ⟨rfl, hb⟩
        replace HT := Lib.hid (HT.out.next hb)
        replace BB := Lib.hid (Below.andThen BB.out hb)
        clear hb
        go_upto_region 37 with (fail)
        refine wp_named fun v21 hq => ?_
        obtain ⟨bOA, ebOA⟩ : ∃ b, b = w21.heap.size := ⟨_, rfl⟩
        have OA := Lib.hid (show Row v21 bOA 23 [.string o1, .string o2] from by rw [hq, ebOA]; first | exact Row.new _ _ _ | exact ((Row.new w21 23 [.string ⟨#[]⟩, .string ⟨#[]⟩]).set 0 (.string o1)).set 1 (.string o2))
        have hb : Below w21.heap.size w21 v21 := by rw [hq]; first | exact (Below.refl _ _).alloc (Nat.le_refl _) _ | exact (((Below.refl _ _).alloc (Nat.le_refl _) _).setCell (p := ⟨w21.heap.size, 0, none⟩) (Nat.le_refl _) _).setCell (p := ⟨w21.heap.size, 1, none⟩) (Nat.le_refl _) _
        replace HT := Lib.hid (HT.out.next hb)
        replace BB := Lib.hid (Below.andThen BB.out hb)
        rw [← ebOA]
        clear hq hb ebOA
        go_wp2_with fail
        with_reducible refine Calls.mono (CO2.out _) ?_
        rintro e w22 ⟨rfl, hb⟩
        replace HT := Lib.hid (HT.out.next hb)
        replace OA := Lib.hid (OA.out.next hb)
        replace BB := Lib.hid (Below.andThen BB.out hb)
        clear hb
        go_upto_region 38 with (fail)
        refine wp_named fun v22 hq => ?_
        obtain ⟨bOB, ebOB⟩ : ∃ b, b = w22.heap.size := ⟨_, rfl⟩
        have OB := Lib.hid (show Row v22 bOB 23 [.string o1, .string o2] from by rw [hq, ebOB]; first | exact Row.new _ _ _ | exact ((Row.new w22 23 [.string ⟨#[]⟩, .string ⟨#[]⟩]).set 0 (.string o1)).set 1 (.string o2))
        have hb : Below w22.heap.size w22 v22 := by rw [hq]; first | exact (Below.refl _ _).alloc (Nat.le_refl _) _ | exact (((Below.refl _ _).alloc (Nat.le_refl _) _).setCell (p := ⟨w22.heap.size, 0, none⟩) (Nat.le_refl _) _).setCell (p := ⟨w22.heap.size, 1, none⟩) (Nat.le_refl _) _
        replace HT := Lib.hid (HT.out.next hb)
        replace OA := Lib.hid (OA.out.next hb)
        replace BB := Lib.hid (Below.andThen BB.out hb)
        rw [← ebOB]
        clear hq hb ebOB
        obtain ⟨cOA0, cOA1⟩ := OA.out.two
        have lOA := OA.out.lt
        obtain ⟨cOB0, cOB1⟩ := OB.out.two
        have lOB := OB.out.lt
        go_wp2_with fail
        go_ret
        exact ⟨rfl, BB.out⟩
      · have hi6 : (i : Int) < 5 := by omega
        have hi7 : (0 : Int) ≤ i := by omega
        obtain ⟨a1, a2, ea⟩ : ∃ a1 a2, A i = (a1, a2) := ⟨_, _, rfl⟩
        have EA := Lib.hid ea
        clear ea
        have HTq := HT
        have BBq := BB
        go_wp2_with fail
        go_loopw [20] (fun kv wr => ∃ k : Nat, k ≤ 5 ∧ kv = .int .i64 k ∧ Below wq.heap.size wq wr) (fun kv _ => 5 - (intOf kv).toNat)
        case atStart => exact ⟨0, by omega, rfl, Below.refl _ _⟩
        case round =>
          obtain ⟨k, hk, rfl, hb0⟩ := hrel
          have HB1 := Lib.hid (show SinceR wq _ from hb0)
          have hb := hb0
          clear hb0
          replace HT := Lib.hid (HT.out.next hb)
          replace LL := Lib.hid (LL.out.next hb)
          replace HB0 := Lib.hid (HB0.out.next hb)
          replace BB := Lib.hid (Below.andThen BB.out hb)
          clear hb
          rename World => wr
          rcases (show k = 5 ∨ k < 5 by omega) with rfl | hk5
          · rw [show ((5 : Nat) : Int) = 5 from rfl]
            clear HTq BBq HB1
            go_wp2_with fail
            with_reducible refine Calls.mono (KP.out _) ?_
            rintro e w' ⟨rfl, rfl⟩
            go_wp2_with fail
            generalize hq : World.alloc wr _ = v14
            obtain ⟨bP, ebP⟩ : ∃ b, b = wr.heap.size := ⟨_, rfl⟩
            have PL := Lib.hid (show Row v14 bP 3 [.int .i64 pl, .int .i64 pz] from by rw [← hq, ebP]; exact Row.new _ _ _)
            have hb : Below wr.heap.size wr v14 := by rw [← hq]; exact (Below.refl _ _).alloc (Nat.le_refl _) _
            rw [← ebP]
            clear hq ebP
            replace HT := Lib.hid (HT.out.next hb)
            replace LL := Lib.hid (LL.out.next hb)
            replace HB0 := Lib.hid (HB0.out.next hb)
            replace BB := Lib.hid (Below.andThen BB.out hb)
            clear hb
            go_loopw [139] (fun jv wr => ∃ j : Nat, j ≤ 2 ∧ jv = .int .i64 j ∧ Below v14.heap.size v14 wr) (fun jv _ => 2 - (intOf jv).toNat)
            case atStart => exact ⟨0, by omega, rfl, Below.refl _ _⟩
            case round =>
              obtain ⟨j, hj, rfl, hb0⟩ := hrel
              have HB2 := Lib.hid (show SinceR v14 _ from hb0)
              have hb := hb0
              clear hb0
              replace HT := Lib.hid (HT.out.next hb)
              replace LL := Lib.hid (LL.out.next hb)
              replace PL := Lib.hid (PL.out.next hb)
              replace HB0 := Lib.hid (HB0.out.next hb)
              replace BB := Lib.hid (Below.andThen BB.out hb)
              clear hb
              rename World => ws
              rcases (show j = 2 ∨ j < 2 by omega) with rfl | hj5
              · rw [show ((2 : Nat) : Int) = 2 from rfl]
                clear HB2 PL
                obtain ⟨f1, f2, fe, hf⟩ := res_parts (Ra.makeS a1 z2)
                have s1 := (HAS.out i hi5).1
                have s2 := (HAS.out 0 (by decide)).2
                rw [EA.out] at s1
                rw [EZ.out] at s2
                have M1 := Lib.hid (fun W (T : RW W) => Make_r a1 z2 W T.tab)
                have M2 := Lib.hid (fun W => rMake_r a1 z2 W s1 s2)
                rw [hf] at M1 M2
                obtain ⟨V, hV⟩ : ∃ V, (Ra.val (A i)).isSome = V := ⟨_, rfl⟩
                have V1 := Lib.hid (fun W (T : RW W) => Valid_r (A i) W T.tab)
                have V2 := Lib.hid (fun W => rValid_r (A i) W (HAS.out i hi5).1 (HAS.out i hi5).2)
                rw [hV, EA.out] at V1 V2
                clear hf hV s1 s2
                obtain ⟨m0, m1, lL⟩ := LL.out.at hi5
                obtain ⟨m2, m3, -⟩ := LL.out.at (show 0 < 5 by decide)
                rw [EA.out] at m0 m1
                rw [EZ.out] at m2 m3
                simp only [Nat.zero_mul, Nat.zero_add] at m2 m3
                go_upto_region 32 with (fail)
                refine wp_region_late_float 12 [14] 13 14 _ (.cells #[.string ⟨#[]⟩, .string ⟨#[]⟩] 23) (by kernel_rfl) (by kernel_rfl) (fun dst _ _ _ _ h => by cases dst <;> exact h) (by kernel_rfl) (by kernel_rfl) rfl rfl (fun ρ w1 => by go_simp) ws.heap.size 0 (by simp) (fun WW hk hWW => ?_)
                simp only [List.take_succ_cons, List.take_zero, List.drop_succ_cons, List.drop_zero, List.cons_append, List.nil_append]
                repeat (go_big_quiet_step ((go_at_call 27; first | with_reducible exact Calls.kin (M1.out _ ((HT.out.next hWW).next (Kin.below _))))))
                refine wpQuiet_nil ?_
                clear hk hWW
                intro w11 b11 hfb hfl hfo
                obtain ⟨ocb11, ofb11⟩ := block_cells hfo
                have osb11 := block_lt hfo
                have HFB := Lib.hid hfb
                have HFL := Lib.hid hfl
                have HFO := Lib.hid (show Row w11 b11 23 [.string ⟨#[]⟩, .string ⟨#[]⟩] from hfo)
                clear hfo hfb hfl
                simp only [Act.put, List.setIfInBounds_toArray, List.set_cons_zero, List.set_cons_succ]
                
                clear m0 m1 m2 m3 lL
                go_upto_region 33 with (fail)
                refine wp_named fun v11 hq => ?_
                have FA := Lib.hid (show Row v11 b11 23 [.string f1, .string f2] from by rw [hq]; exact (HFO.out.set 0 (.string f1)).set 1 (.string f2))
                have hb : Below ws.heap.size ws v11 := by rw [hq]; exact (HFB.out.setCell (p := ⟨b11, 0, none⟩) HFL.out _).setCell (p := ⟨b11, 1, none⟩) HFL.out _
                replace HT := Lib.hid (HT.out.next hb)
                replace LL := Lib.hid (LL.out.next hb)
                replace HB0 := Lib.hid (HB0.out.next hb)
                replace BB := Lib.hid (Below.andThen BB.out hb)
                clear hq hb HFO HFB HFL ocb11 ofb11 osb11
                obtain ⟨bFA, ebFA⟩ : ∃ b, b = b11 := ⟨_, rfl⟩
                rw [← ebFA] at FA ⊢
                clear ebFA
                obtain ⟨m0, m1, lL⟩ := LL.out.at hi5
                obtain ⟨m2, m3, -⟩ := LL.out.at (show 0 < 5 by decide)
                rw [EA.out] at m0 m1
                rw [EZ.out] at m2 m3
                simp only [Nat.zero_mul, Nat.zero_add] at m2 m3
                refine wp_region_late_float 12 [14] 13 14 _ (.cells #[.string ⟨#[]⟩, .string ⟨#[]⟩] 23) (by kernel_rfl) (by kernel_rfl) (fun dst _ _ _ _ h => by cases dst <;> exact h) (by kernel_rfl) (by kernel_rfl) rfl rfl (fun ρ w1 => by go_simp) v11.heap.size 0 (by simp) (fun WW hk hWW => ?_)
                simp only [List.take_succ_cons, List.take_zero, List.drop_succ_cons, List.drop_zero, List.cons_append, List.nil_append]
                repeat (go_big_quiet_step ((go_at_call 28; with_reducible exact Calls.kin (M2.out _))))
                refine wpQuiet_nil ?_
                clear hk hWW
                intro w12 b12 hfb hfl hfo
                obtain ⟨ocb12, ofb12⟩ := block_cells hfo
                have osb12 := block_lt hfo
                have HFB := Lib.hid hfb
                have HFL := Lib.hid hfl
                have HFO := Lib.hid (show Row w12 b12 23 [.string ⟨#[]⟩, .string ⟨#[]⟩] from hfo)
                clear hfo hfb hfl
                simp only [Act.put, List.setIfInBounds_toArray, List.set_cons_zero, List.set_cons_succ]
                
                clear m0 m1 m2 m3 lL
                go_upto_region 34 with (fail)
                refine wp_named fun v12 hq => ?_
                have FB := Lib.hid (show Row v12 b12 23 [.string f1, .string f2] from by rw [hq]; exact (HFO.out.set 0 (.string f1)).set 1 (.string f2))
                have hb : Below v11.heap.size v11 v12 := by rw [hq]; exact (HFB.out.setCell (p := ⟨b12, 0, none⟩) HFL.out _).setCell (p := ⟨b12, 1, none⟩) HFL.out _
                replace HT := Lib.hid (HT.out.next hb)
                replace LL := Lib.hid (LL.out.next hb)
                replace HB0 := Lib.hid (HB0.out.next hb)
                replace FA := Lib.hid (FA.out.next hb)
                replace BB := Lib.hid (Below.andThen BB.out hb)
                clear hq hb HFO HFB HFL ocb12 ofb12 osb12
                obtain ⟨bFB, ebFB⟩ : ∃ b, b = b12 := ⟨_, rfl⟩
                rw [← ebFB] at FB ⊢
                clear ebFB
                obtain ⟨m0, m1, lL⟩ := LL.out.at hi5
                rw [EA.out] at m0 m1
                obtain ⟨cFA0, cFA1⟩ := FA.out.two
                have lFA := FA.out.lt
                obtain ⟨cFB0, cFB1⟩ := FB.out.two
                have lFB := FB.out.lt
                refine wp_region_kin (by kernel_rfl) (by kernel_rfl) v12.heap.size 0 (by simp) (fun hk => ?_)
                repeat (go_big_quiet_step (first | (go_at_call 29; first | with_reducible exact Calls.kin (V1.out _ (HT.out.next (Kin.below _)))) | (go_at_call 30; first | with_reducible exact Calls.kin (V2.out _))))
                refine wpQuiet_nil ?_
                clear hk
                intro w13 hb
                replace HT := Lib.hid (HT.out.next hb)
                replace LL := Lib.hid (LL.out.next hb)
                replace HB0 := Lib.hid (HB0.out.next hb)
                replace BB := Lib.hid (Below.andThen BB.out hb)
                clear hb
                clear cFA0 cFA1 lFA cFB0 cFB1 lFB
                clear m0 m1 lL
                go_wp2_with fail
                go_roundw
                case rel => exact ⟨i + 1, by omega, by go_num, HB0.out⟩
                case measure => simp [intOf]; omega
              · have hj6 : (j : Int) < 2 := by omega
                have hj7 : (0 : Int) ≤ j := by omega
                obtain ⟨K, hK⟩ : ∃ K : Int, ([.int .i64 pl, .int .i64 pz] : List Value)[j]? = some (.int .i64 K) := by
                  rcases (show j = 0 ∨ j = 1 by omega) with rfl | rfl
                  · exact ⟨pl, rfl⟩
                  · exact ⟨pz, rfl⟩
                have KK := Lib.hid hK
                clear hK
                obtain ⟨d1, d2, de, hd⟩ := res_parts (Ra.roundO false (Ra.val (A i)) K)
                obtain ⟨y1, y2, ye, hu⟩ := res_parts (Ra.roundO true (Ra.val (A i)) K)
                have D1 := Lib.hid (fun W (T : RW W) => Down_r (A i) K W T.tab)
                have D2 := Lib.hid (fun W => rDown_r (A i) K W (HAS.out i hi5).1 (HAS.out i hi5).2)
                have U1 := Lib.hid (fun W (T : RW W) => Up_r (A i) K W T.tab)
                have U2 := Lib.hid (fun W => rUp_r (A i) K W (HAS.out i hi5).1 (HAS.out i hi5).2)
                rw [hd, EA.out] at D1 D2
                rw [hu, EA.out] at U1 U2
                clear hd hu
                have cP := (PL.out.cell j).trans KK.out
                have lP := PL.out.lt
                obtain ⟨m0, m1, lL⟩ := LL.out.at hi5
                rw [EA.out] at m0 m1
                go_wp2_with fail
                clear m0 m1 lL cP lP
                with_reducible refine Calls.mono (D1.out _ HT.out) ?_
                rintro e s1 ⟨rfl, hb⟩
                replace HT := Lib.hid (HT.out.next hb)
                replace LL := Lib.hid (LL.out.next hb)
                replace HB0 := Lib.hid (HB0.out.next hb)
                replace HB2 := Lib.hid (HB2.out.next hb)
                replace BB := Lib.hid (Below.andThen BB.out hb)
                clear hb
                go_upto_region 26 with (fail)
                refine wp_named fun t1 hq => ?_
                obtain ⟨bDA, ebDA⟩ : ∃ b, b = s1.heap.size := ⟨_, rfl⟩
                have DA := Lib.hid (show Row t1 bDA 23 [.string d1, .string d2] from by rw [hq, ebDA]; first | exact Row.new _ _ _ | exact ((Row.new s1 23 [.string ⟨#[]⟩, .string ⟨#[]⟩]).set 0 (.string d1)).set 1 (.string d2))
                have hb : Below s1.heap.size s1 t1 := by rw [hq]; first | exact (Below.refl _ _).alloc (Nat.le_refl _) _ | exact (((Below.refl _ _).alloc (Nat.le_refl _) _).setCell (p := ⟨s1.heap.size, 0, none⟩) (Nat.le_refl _) _).setCell (p := ⟨s1.heap.size, 1, none⟩) (Nat.le_refl _) _
                replace HT := Lib.hid (HT.out.next hb)
                replace LL := Lib.hid (LL.out.next hb)
                replace HB0 := Lib.hid (HB0.out.next hb)
                replace HB2 := Lib.hid (HB2.out.next hb)
                replace BB := Lib.hid (Below.andThen BB.out hb)
                rw [← ebDA]
                clear hq hb ebDA
                obtain ⟨m0, m1, lL⟩ := LL.out.at hi5
                rw [EA.out] at m0 m1
                go_wp2_with fail
                clear m0 m1 lL
                with_reducible refine Calls.mono (D2.out _) ?_
                rintro e s2 ⟨rfl, hb⟩
                replace HT := Lib.hid (HT.out.next hb)
                replace LL := Lib.hid (LL.out.next hb)
                replace HB0 := Lib.hid (HB0.out.next hb)
                replace HB2 := Lib.hid (HB2.out.next hb)
                replace DA := Lib.hid (DA.out.next hb)
                replace BB := Lib.hid (Below.andThen BB.out hb)
                clear hb
                go_upto_region 27 with (fail)
                refine wp_named fun t2 hq => ?_
                obtain ⟨bDB, ebDB⟩ : ∃ b, b = s2.heap.size := ⟨_, rfl⟩
                have DB := Lib.hid (show Row t2 bDB 23 [.string d1, .string d2] from by rw [hq, ebDB]; first | exact Row.new _ _ _ | exact ((Row.new s2 23 [.string ⟨#[]⟩, .string ⟨#[]⟩]).set 0 (.string d1)).set 1 (.string d2))
                have hb : Below s2.heap.size s2 t2 := by rw [hq]; first | exact (Below.refl _ _).alloc (Nat.le_refl _) _ | exact (((Below.refl _ _).alloc (Nat.le_refl _) _).setCell (p := ⟨s2.heap.size, 0, none⟩) (Nat.le_refl _) _).setCell (p := ⟨s2.heap.size, 1, none⟩) (Nat.le_refl _) _
                replace HT := Lib.hid (HT.out.next hb)
                replace LL := Lib.hid (LL.out.next hb)
                replace HB0 := Lib.hid (HB0.out.next hb)
                replace HB2 := Lib.hid (HB2.out.next hb)
                replace DA := Lib.hid (DA.out.next hb)
                replace BB := Lib.hid (Below.andThen BB.out hb)
                rw [← ebDB]
                clear hq hb ebDB
                obtain ⟨m0, m1, lL⟩ := LL.out.at hi5
                rw [EA.out] at m0 m1
                go_wp2_with fail
                clear m0 m1 lL
                with_reducible refine Calls.mono (U1.out _ HT.out) ?_
                rintro e s3 ⟨rfl, hb⟩
                replace HT := Lib.hid (HT.out.next hb)
                replace LL := Lib.hid (LL.out.next hb)
                replace HB0 := Lib.hid (HB0.out.next hb)
                replace HB2 := Lib.hid (HB2.out.next hb)
                replace DA := Lib.hid (DA.out.next hb)
                replace DB := Lib.hid (DB.out.next hb)
                replace BB := Lib.hid (Below.andThen BB.out hb)
                clear hb
                go_upto_region 28 with (fail)
                refine wp_named fun t3 hq => ?_
                obtain ⟨bUA, ebUA⟩ : ∃ b, b = s3.heap.size := ⟨_, rfl⟩
                have UA := Lib.hid (show Row t3 bUA 23 [.string y1, .string y2] from by rw [hq, ebUA]; first | exact Row.new _ _ _ | exact ((Row.new s3 23 [.string ⟨#[]⟩, .string ⟨#[]⟩]).set 0 (.string y1)).set 1 (.string y2))
                have hb : Below s3.heap.size s3 t3 := by rw [hq]; first | exact (Below.refl _ _).alloc (Nat.le_refl _) _ | exact (((Below.refl _ _).alloc (Nat.le_refl _) _).setCell (p := ⟨s3.heap.size, 0, none⟩) (Nat.le_refl _) _).setCell (p := ⟨s3.heap.size, 1, none⟩) (Nat.le_refl _) _
                replace HT := Lib.hid (HT.out.next hb)
                replace LL := Lib.hid (LL.out.next hb)
                replace HB0 := Lib.hid (HB0.out.next hb)
                replace HB2 := Lib.hid (HB2.out.next hb)
                replace DA := Lib.hid (DA.out.next hb)
                replace DB := Lib.hid (DB.out.next hb)
                replace BB := Lib.hid (Below.andThen BB.out hb)
                rw [← ebUA]
                clear hq hb ebUA
                obtain ⟨m0, m1, lL⟩ := LL.out.at hi5
                rw [EA.out] at m0 m1
                go_wp2_with fail
                clear m0 m1 lL
                with_reducible refine Calls.mono (U2.out _) ?_
                rintro e s4 ⟨rfl, hb⟩
                replace HT := Lib.hid (HT.out.next hb)
                replace LL := Lib.hid (LL.out.next hb)
                replace HB0 := Lib.hid (HB0.out.next hb)
                replace HB2 := Lib.hid (HB2.out.next hb)
                replace DA := Lib.hid (DA.out.next hb)
                replace DB := Lib.hid (DB.out.next hb)
                replace UA := Lib.hid (UA.out.next hb)
                replace BB := Lib.hid (Below.andThen BB.out hb)
                clear hb
                go_upto_region 29 with (fail)
                refine wp_named fun t4 hq => ?_
                obtain ⟨bUB, ebUB⟩ : ∃ b, b = s4.heap.size := ⟨_, rfl⟩
                have UB := Lib.hid (show Row t4 bUB 23 [.string y1, .string y2] from by rw [hq, ebUB]; first | exact Row.new _ _ _ | exact ((Row.new s4 23 [.string ⟨#[]⟩, .string ⟨#[]⟩]).set 0 (.string y1)).set 1 (.string y2))
                have hb : Below s4.heap.size s4 t4 := by rw [hq]; first | exact (Below.refl _ _).alloc (Nat.le_refl _) _ | exact (((Below.refl _ _).alloc (Nat.le_refl _) _).setCell (p := ⟨s4.heap.size, 0, none⟩) (Nat.le_refl _) _).setCell (p := ⟨s4.heap.size, 1, none⟩) (Nat.le_refl _) _
                replace HT := Lib.hid (HT.out.next hb)
                replace LL := Lib.hid (LL.out.next hb)
                replace HB0 := Lib.hid (HB0.out.next hb)
                replace HB2 := Lib.hid (HB2.out.next hb)
                replace DA := Lib.hid (DA.out.next hb)
                replace DB := Lib.hid (DB.out.next hb)
                replace UA := Lib.hid (UA.out.next hb)
                replace BB := Lib.hid (Below.andThen BB.out hb)
                rw [← ebUB]
                clear hq hb ebUB
                obtain ⟨cDA0, cDA1⟩ := DA.out.two
                have lDA := DA.out.lt
                obtain ⟨cDB0, cDB1⟩ := DB.out.two
                have lDB := DB.out.lt
                obtain ⟨cUA0, cUA1⟩ := UA.out.two
                have lUA := UA.out.lt
                obtain ⟨cUB0, cUB1⟩ := UB.out.two
                have lUB := UB.out.lt
                go_wp2_with fail
                clear cDA0 cDA1 lDA cDB0 cDB1 lDB cUA0 cUA1 lUA cUB0 cUB1 lUB
                go_roundw
                case rel => exact ⟨j + 1, by omega, by go_num, HB2.out⟩
                case measure => simp [intOf]; omega
          · have hk6 : (k : Int) < 5 := by omega
            have hk7 : (0 : Int) ≤ k := by omega
            obtain ⟨d1, d2, eb⟩ : ∃ a1 a2, A k = (a1, a2) := ⟨_, _, rfl⟩
            have EB := Lib.hid eb
            clear eb
            obtain ⟨p0, q0, e0, h0⟩ := res_parts (Ra.addO (Ra.val (A i)) (Ra.val (A k)))
            obtain ⟨p1, q1, e1, h1⟩ := res_parts (Ra.subO (Ra.val (A i)) (Ra.val (A k)))
            obtain ⟨p2, q2, e2, h2⟩ := res_parts (Ra.mulO (Ra.val (A i)) (Ra.val (A k)))
            obtain ⟨p3, q3, e3, h3⟩ := res_parts (Ra.divO (Ra.val (A i)) (Ra.val (A k)))
            obtain ⟨c, hc⟩ : ∃ c, Ra.cmpO (Ra.val (A i)) (Ra.val (A k)) = c := ⟨_, rfl⟩
            have F := Lib.hid (fun W (T : RW W) => four_any (A i) (A k) W T.tab h0 h1 h2 h3)
            have CP := Lib.hid (fun W (T : RW W) => Compare_r (A i) (A k) W T.tab)
            have CR := Lib.hid (fun W => rCompare_r (A i) (A k) W (HAS.out i hi5).1 (HAS.out i hi5).2 (HAS.out k hk5).1 (HAS.out k hk5).2)
            rw [hc] at CP CR
            have R0 := Lib.hid (fun W => rAdd_r (A i) (A k) W (HAS.out i hi5).1 (HAS.out i hi5).2 (HAS.out k hk5).1 (HAS.out k hk5).2)
            rw [h0] at R0
            have R1 := Lib.hid (fun W => rSub_r (A i) (A k) W (HAS.out i hi5).1 (HAS.out i hi5).2 (HAS.out k hk5).1 (HAS.out k hk5).2)
            rw [h1] at R1
            have R2 := Lib.hid (fun W => rMul_r (A i) (A k) W (HAS.out i hi5).1 (HAS.out i hi5).2 (HAS.out k hk5).1 (HAS.out k hk5).2)
            rw [h2] at R2
            have R3 := Lib.hid (fun W => rDiv_r (A i) (A k) W (HAS.out i hi5).1 (HAS.out i hi5).2 (HAS.out k hk5).1 (HAS.out k hk5).2)
            rw [h3] at R3
            rw [EA.out, EB.out] at F CP CR R0 R1 R2 R3
            clear h0 h1 h2 h3 hc
            obtain ⟨m0, m1, lL⟩ := LL.out.at hi5
            rw [EA.out] at m0 m1
            go_upto_region 12 with (fail)
            refine wp_named fun v6 hq => ?_
            obtain ⟨bX, ebX⟩ : ∃ b, b = wr.heap.size := ⟨_, rfl⟩
            have X := Lib.hid (show Row v6 bX 23 [.string a1, .string a2] from by rw [hq, ebX]; first | exact Row.new _ _ _ | exact ((Row.new wr 23 [.string ⟨#[]⟩, .string ⟨#[]⟩]).set 0 (.string a1)).set 1 (.string a2))
            have hb : Below wr.heap.size wr v6 := by rw [hq]; first | exact (Below.refl _ _).alloc (Nat.le_refl _) _ | exact (((Below.refl _ _).alloc (Nat.le_refl _) _).setCell (p := ⟨wr.heap.size, 0, none⟩) (Nat.le_refl _) _).setCell (p := ⟨wr.heap.size, 1, none⟩) (Nat.le_refl _) _
            replace HT := Lib.hid (HT.out.next hb)
            replace LL := Lib.hid (LL.out.next hb)
            replace HB1 := Lib.hid (HB1.out.next hb)
            replace BB := Lib.hid (Below.andThen BB.out hb)
            rw [← ebX]
            clear hq hb ebX
            clear m0 m1 lL
            obtain ⟨m0, m1, lL⟩ := LL.out.at hk5
            rw [EB.out] at m0 m1
            go_upto_region 13 with (fail)
            refine wp_named fun v7 hq => ?_
            obtain ⟨bY, ebY⟩ : ∃ b, b = v6.heap.size := ⟨_, rfl⟩
            have Y := Lib.hid (show Row v7 bY 23 [.string d1, .string d2] from by rw [hq, ebY]; first | exact Row.new _ _ _ | exact ((Row.new v6 23 [.string ⟨#[]⟩, .string ⟨#[]⟩]).set 0 (.string d1)).set 1 (.string d2))
            have hb : Below v6.heap.size v6 v7 := by rw [hq]; first | exact (Below.refl _ _).alloc (Nat.le_refl _) _ | exact (((Below.refl _ _).alloc (Nat.le_refl _) _).setCell (p := ⟨v6.heap.size, 0, none⟩) (Nat.le_refl _) _).setCell (p := ⟨v6.heap.size, 1, none⟩) (Nat.le_refl _) _
            replace HT := Lib.hid (HT.out.next hb)
            replace X := Lib.hid (X.out.next hb)
            replace HB1 := Lib.hid (HB1.out.next hb)
            replace BB := Lib.hid (Below.andThen BB.out hb)
            rw [← ebY]
            clear hq hb ebY
            clear m0 m1 lL LL
            obtain ⟨cX0, cX1⟩ := X.out.two
            have lX := X.out.lt
            obtain ⟨cY0, cY1⟩ := Y.out.two
            have lY := Y.out.lt
            go_wp2_with fail
            clear cX0 cX1 lX cY0 cY1 lY
            with_reducible refine Calls.mono (F.out _ HT.out) ?_
            rintro e w8 ⟨rfl, hb⟩
            replace HT := Lib.hid (HT.out.next hb)
            replace X := Lib.hid (X.out.next hb)
            replace Y := Lib.hid (Y.out.next hb)
            replace HB1 := Lib.hid (HB1.out.next hb)
            replace BB := Lib.hid (Below.andThen BB.out hb)
            clear hb
            go_upto_region 14 with (fail)
            refine wp_named fun v8 hq => ?_
            obtain ⟨bR, ebR⟩ : ∃ b, b = w8.heap.size := ⟨_, rfl⟩
            obtain ⟨bE, ebE⟩ : ∃ b, b = w8.heap.size + 1 := ⟨_, rfl⟩
            obtain ⟨hR, hE, hb⟩ := four_rows w8 v8 _ _ _ _ _ _ _ _ _ _ _ _ hq
            have R := Lib.hid (show Row v8 bR 31 [.string p0, .string q0, .string p1, .string q1, .string p2, .string q2, .string p3, .string q3] from by rw [ebR]; exact hR)
            have E := Lib.hid (show Row v8 bE 33 [.int .i64 e0, .int .i64 e1, .int .i64 e2, .int .i64 e3] from by rw [ebE]; exact hE)
            clear hR hE
            replace HT := Lib.hid (HT.out.next hb)
            replace X := Lib.hid (X.out.next hb)
            replace Y := Lib.hid (Y.out.next hb)
            replace HB1 := Lib.hid (HB1.out.next hb)
            replace BB := Lib.hid (Below.andThen BB.out hb)
            rw [← ebE, ← ebR]
            clear hq hb ebR ebE
            clear F
            go_upto_region 16 with (fail)
            refine wp_named fun v9 hq => ?_
            obtain ⟨bT, ebT⟩ : ∃ b, b = v8.heap.size := ⟨_, rfl⟩
            obtain ⟨bU, ebU⟩ : ∃ b, b = v8.heap.size + 1 := ⟨_, rfl⟩
            obtain ⟨hT, hU, hb⟩ := rows2 v8 31 33 z8 z4 v9 hq
            have TT := Lib.hid (show Row v9 bT 31 z8 from by rw [ebT]; exact hT)
            have U := Lib.hid (show Row v9 bU 33 z4 from by rw [ebU]; exact hU)
            have N := Lib.hid (show (bX ≠ bT ∧ bX ≠ bU ∧ bY ≠ bT ∧ bY ≠ bU) ∧ (bR ≠ bT ∧ bR ≠ bU ∧ bE ≠ bT ∧ bE ≠ bU) ∧ (bT ≠ bU ∧ bU ≠ bT ∧ wq.heap.size ≤ bT ∧ wq.heap.size ≤ bU) from by
              have n1 := X.out.lt
              have n2 := Y.out.lt
              have n3 := R.out.lt
              have n4 := E.out.lt
              have n5 := Below.size HB1.out
              rw [ebU, ebT]
              omega)
            rw [← ebU, ← ebT]
            clear hq hT hU ebT ebU
            replace HT := Lib.hid (HT.out.next hb)
            replace X := Lib.hid (X.out.next hb)
            replace Y := Lib.hid (Y.out.next hb)
            replace R := Lib.hid (R.out.next hb)
            replace E := Lib.hid (E.out.next hb)
            replace HB1 := Lib.hid (HB1.out.next hb)
            replace BB := Lib.hid (Below.andThen BB.out hb)
            clear hb
            obtain ⟨cX0, cX1⟩ := X.out.two
            have lX := X.out.lt
            obtain ⟨cY0, cY1⟩ := Y.out.two
            have lY := Y.out.lt
            go_wp2_with fail
            with_reducible refine Calls.mono (R0.out _) ?_
            rintro e x0 ⟨rfl, hb⟩
            clear cX0 cX1 lX cY0 cY1 lY
            replace X := Lib.hid (X.out.next hb)
            replace Y := Lib.hid (Y.out.next hb)
            replace R := Lib.hid (R.out.next hb)
            replace E := Lib.hid (E.out.next hb)
            replace TT := Lib.hid (TT.out.next hb)
            replace U := Lib.hid (U.out.next hb)
            replace HB1 := Lib.hid (HB1.out.next hb)
            replace BB := Lib.hid (Below.andThen BB.out hb)
            clear hb
            have c0 := (TT.out.cell 0).trans (show _ = some (Value.string ⟨#[]⟩) from rfl)
            have c1 := (TT.out.cell 1).trans (show _ = some (Value.string ⟨#[]⟩) from rfl)
            have c2 := (U.out.cell 0).trans (show _ = some (Value.int .i64 0) from rfl)
            have f0 := TT.out.frozen 0
            have f1 := TT.out.frozen 1
            have f2 := U.out.frozen 0
            have lr := TT.out.lt
            have le := U.out.lt
            have ne := N.out.2.2.2.1
            go_upto_region 17 with (fail)
            refine wp_named fun y0 hq => ?_
            replace X := Lib.hid (show Row y0 bX _ _ from by rw [hq]; exact (((X.out.other N.out.1.1 _ _).other N.out.1.1 _ _).other N.out.1.2.1 _ _))
            replace Y := Lib.hid (show Row y0 bY _ _ from by rw [hq]; exact (((Y.out.other N.out.1.2.2.1 _ _).other N.out.1.2.2.1 _ _).other N.out.1.2.2.2 _ _))
            replace R := Lib.hid (show Row y0 bR _ _ from by rw [hq]; exact (((R.out.other N.out.2.1.1 _ _).other N.out.2.1.1 _ _).other N.out.2.1.2.1 _ _))
            replace E := Lib.hid (show Row y0 bE _ _ from by rw [hq]; exact (((E.out.other N.out.2.1.2.2.1 _ _).other N.out.2.1.2.2.1 _ _).other N.out.2.1.2.2.2 _ _))
            replace TT := Lib.hid (show Row y0 bT _ _ from by rw [hq]; exact (((TT.out.set 0 (.string p0)).set 1 (.string q0)).other N.out.2.2.1 0 _))
            replace U := Lib.hid (show Row y0 bU _ _ from by rw [hq]; exact (((U.out.other N.out.2.2.2.1 _ _).other N.out.2.2.2.1 _ _).set 0 (.int .i64 e0)))
            replace HB1 := Lib.hid (show SinceR wq y0 from by rw [hq]; exact ((Below.setCell (p := ⟨bT, 0, none⟩) HB1.out N.out.2.2.2.2.1 _).setCell (p := ⟨bT, 1, none⟩) N.out.2.2.2.2.1 _).setCell (p := ⟨bU, 0, none⟩) N.out.2.2.2.2.2 _)
            clear hq c0 c1 c2 f0 f1 f2 lr le ne HT BB
            have HT := Lib.hid (HTq.out.next HB1.out)
            have BB := Lib.hid (Below.andThen BBq.out HB1.out)
            obtain ⟨cX0, cX1⟩ := X.out.two
            have lX := X.out.lt
            obtain ⟨cY0, cY1⟩ := Y.out.two
            have lY := Y.out.lt
            go_wp2_with fail
            with_reducible refine Calls.mono (R1.out _) ?_
            rintro e x1 ⟨rfl, hb⟩
            clear cX0 cX1 lX cY0 cY1 lY
            replace X := Lib.hid (X.out.next hb)
            replace Y := Lib.hid (Y.out.next hb)
            replace R := Lib.hid (R.out.next hb)
            replace E := Lib.hid (E.out.next hb)
            replace TT := Lib.hid (TT.out.next hb)
            replace U := Lib.hid (U.out.next hb)
            replace HB1 := Lib.hid (HB1.out.next hb)
            replace BB := Lib.hid (Below.andThen BB.out hb)
            clear hb
            have c0 := (TT.out.cell 2).trans (show _ = some (Value.string ⟨#[]⟩) from rfl)
            have c1 := (TT.out.cell 3).trans (show _ = some (Value.string ⟨#[]⟩) from rfl)
            have c2 := (U.out.cell 1).trans (show _ = some (Value.int .i64 0) from rfl)
            have f0 := TT.out.frozen 2
            have f1 := TT.out.frozen 3
            have f2 := U.out.frozen 1
            have lr := TT.out.lt
            have le := U.out.lt
            have ne := N.out.2.2.2.1
            go_upto_region 18 with (fail)
            refine wp_named fun y1 hq => ?_
            replace X := Lib.hid (show Row y1 bX _ _ from by rw [hq]; exact (((X.out.other N.out.1.1 _ _).other N.out.1.1 _ _).other N.out.1.2.1 _ _))
            replace Y := Lib.hid (show Row y1 bY _ _ from by rw [hq]; exact (((Y.out.other N.out.1.2.2.1 _ _).other N.out.1.2.2.1 _ _).other N.out.1.2.2.2 _ _))
            replace R := Lib.hid (show Row y1 bR _ _ from by rw [hq]; exact (((R.out.other N.out.2.1.1 _ _).other N.out.2.1.1 _ _).other N.out.2.1.2.1 _ _))
            replace E := Lib.hid (show Row y1 bE _ _ from by rw [hq]; exact (((E.out.other N.out.2.1.2.2.1 _ _).other N.out.2.1.2.2.1 _ _).other N.out.2.1.2.2.2 _ _))
            replace TT := Lib.hid (show Row y1 bT _ _ from by rw [hq]; exact (((TT.out.set 2 (.string p1)).set 3 (.string q1)).other N.out.2.2.1 1 _))
            replace U := Lib.hid (show Row y1 bU _ _ from by rw [hq]; exact (((U.out.other N.out.2.2.2.1 _ _).other N.out.2.2.2.1 _ _).set 1 (.int .i64 e1)))
            replace HB1 := Lib.hid (show SinceR wq y1 from by rw [hq]; exact ((Below.setCell (p := ⟨bT, 2, none⟩) HB1.out N.out.2.2.2.2.1 _).setCell (p := ⟨bT, 3, none⟩) N.out.2.2.2.2.1 _).setCell (p := ⟨bU, 1, none⟩) N.out.2.2.2.2.2 _)
            clear hq c0 c1 c2 f0 f1 f2 lr le ne HT BB
            have HT := Lib.hid (HTq.out.next HB1.out)
            have BB := Lib.hid (Below.andThen BBq.out HB1.out)
            obtain ⟨cX0, cX1⟩ := X.out.two
            have lX := X.out.lt
            obtain ⟨cY0, cY1⟩ := Y.out.two
            have lY := Y.out.lt
            go_wp2_with fail
            with_reducible refine Calls.mono (R2.out _) ?_
            rintro e x2 ⟨rfl, hb⟩
            clear cX0 cX1 lX cY0 cY1 lY
            replace X := Lib.hid (X.out.next hb)
            replace Y := Lib.hid (Y.out.next hb)
            replace R := Lib.hid (R.out.next hb)
            replace E := Lib.hid (E.out.next hb)
            replace TT := Lib.hid (TT.out.next hb)
            replace U := Lib.hid (U.out.next hb)
            replace HB1 := Lib.hid (HB1.out.next hb)
            replace BB := Lib.hid (Below.andThen BB.out hb)
            clear hb
            have c0 := (TT.out.cell 4).trans (show _ = some (Value.string ⟨#[]⟩) from rfl)
            have c1 := (TT.out.cell 5).trans (show _ = some (Value.string ⟨#[]⟩) from rfl)
            have c2 := (U.out.cell 2).trans (show _ = some (Value.int .i64 0) from rfl)
            have f0 := TT.out.frozen 4
            have f1 := TT.out.frozen 5
            have f2 := U.out.frozen 2
            have lr := TT.out.lt
            have le := U.out.lt
            have ne := N.out.2.2.2.1
            go_upto_region 19 with (fail)
            refine wp_named fun y2 hq => ?_
            replace X := Lib.hid (show Row y2 bX _ _ from by rw [hq]; exact (((X.out.other N.out.1.1 _ _).other N.out.1.1 _ _).other N.out.1.2.1 _ _))
            replace Y := Lib.hid (show Row y2 bY _ _ from by rw [hq]; exact (((Y.out.other N.out.1.2.2.1 _ _).other N.out.1.2.2.1 _ _).other N.out.1.2.2.2 _ _))
            replace R := Lib.hid (show Row y2 bR _ _ from by rw [hq]; exact (((R.out.other N.out.2.1.1 _ _).other N.out.2.1.1 _ _).other N.out.2.1.2.1 _ _))
            replace E := Lib.hid (show Row y2 bE _ _ from by rw [hq]; exact (((E.out.other N.out.2.1.2.2.1 _ _).other N.out.2.1.2.2.1 _ _).other N.out.2.1.2.2.2 _ _))
            replace TT := Lib.hid (show Row y2 bT _ _ from by rw [hq]; exact (((TT.out.set 4 (.string p2)).set 5 (.string q2)).other N.out.2.2.1 2 _))
            replace U := Lib.hid (show Row y2 bU _ _ from by rw [hq]; exact (((U.out.other N.out.2.2.2.1 _ _).other N.out.2.2.2.1 _ _).set 2 (.int .i64 e2)))
            replace HB1 := Lib.hid (show SinceR wq y2 from by rw [hq]; exact ((Below.setCell (p := ⟨bT, 4, none⟩) HB1.out N.out.2.2.2.2.1 _).setCell (p := ⟨bT, 5, none⟩) N.out.2.2.2.2.1 _).setCell (p := ⟨bU, 2, none⟩) N.out.2.2.2.2.2 _)
            clear hq c0 c1 c2 f0 f1 f2 lr le ne HT BB
            have HT := Lib.hid (HTq.out.next HB1.out)
            have BB := Lib.hid (Below.andThen BBq.out HB1.out)
            obtain ⟨cX0, cX1⟩ := X.out.two
            have lX := X.out.lt
            obtain ⟨cY0, cY1⟩ := Y.out.two
            have lY := Y.out.lt
            go_wp2_with fail
            with_reducible refine Calls.mono (R3.out _) ?_
            rintro e x3 ⟨rfl, hb⟩
            clear cX0 cX1 lX cY0 cY1 lY
            replace X := Lib.hid (X.out.next hb)
            replace Y := Lib.hid (Y.out.next hb)
            replace R := Lib.hid (R.out.next hb)
            replace E := Lib.hid (E.out.next hb)
            replace TT := Lib.hid (TT.out.next hb)
            replace U := Lib.hid (U.out.next hb)
            replace HB1 := Lib.hid (HB1.out.next hb)
            replace BB := Lib.hid (Below.andThen BB.out hb)
            clear hb
            have c0 := (TT.out.cell 6).trans (show _ = some (Value.string ⟨#[]⟩) from rfl)
            have c1 := (TT.out.cell 7).trans (show _ = some (Value.string ⟨#[]⟩) from rfl)
            have c2 := (U.out.cell 3).trans (show _ = some (Value.int .i64 0) from rfl)
            have f0 := TT.out.frozen 6
            have f1 := TT.out.frozen 7
            have f2 := U.out.frozen 3
            have lr := TT.out.lt
            have le := U.out.lt
            have ne := N.out.2.2.2.1
            go_upto_region 20 with (fail)
            refine wp_named fun y3 hq => ?_
            replace X := Lib.hid (show Row y3 bX _ _ from by rw [hq]; exact (((X.out.other N.out.1.1 _ _).other N.out.1.1 _ _).other N.out.1.2.1 _ _))
            replace Y := Lib.hid (show Row y3 bY _ _ from by rw [hq]; exact (((Y.out.other N.out.1.2.2.1 _ _).other N.out.1.2.2.1 _ _).other N.out.1.2.2.2 _ _))
            replace R := Lib.hid (show Row y3 bR _ _ from by rw [hq]; exact (((R.out.other N.out.2.1.1 _ _).other N.out.2.1.1 _ _).other N.out.2.1.2.1 _ _))
            replace E := Lib.hid (show Row y3 bE _ _ from by rw [hq]; exact (((E.out.other N.out.2.1.2.2.1 _ _).other N.out.2.1.2.2.1 _ _).other N.out.2.1.2.2.2 _ _))
            replace TT := Lib.hid (show Row y3 bT _ _ from by rw [hq]; exact (((TT.out.set 6 (.string p3)).set 7 (.string q3)).other N.out.2.2.1 3 _))
            replace U := Lib.hid (show Row y3 bU _ _ from by rw [hq]; exact (((U.out.other N.out.2.2.2.1 _ _).other N.out.2.2.2.1 _ _).set 3 (.int .i64 e3)))
            replace HB1 := Lib.hid (show SinceR wq y3 from by rw [hq]; exact ((Below.setCell (p := ⟨bT, 6, none⟩) HB1.out N.out.2.2.2.2.1 _).setCell (p := ⟨bT, 7, none⟩) N.out.2.2.2.2.1 _).setCell (p := ⟨bU, 3, none⟩) N.out.2.2.2.2.2 _)
            clear hq c0 c1 c2 f0 f1 f2 lr le ne HT BB
            have HT := Lib.hid (HTq.out.next HB1.out)
            have BB := Lib.hid (Below.andThen BBq.out HB1.out)
            clear R0 R1 R2 R3
            have TV := Lib.hid (show Row y3 bT 31 [.string p0, .string q0, .string p1, .string q1, .string p2, .string q2, .string p3, .string q3] from TT.out)
            have UV := Lib.hid (show Row y3 bU 33 [.int .i64 e0, .int .i64 e1, .int .i64 e2, .int .i64 e3] from U.out)
            clear TT U N
            have gc0 := R.out.cell 0
            have tc0 := TV.out.cell 0
            have gc1 := R.out.cell 1
            have tc1 := TV.out.cell 1
            have gc2 := R.out.cell 2
            have tc2 := TV.out.cell 2
            have gc3 := R.out.cell 3
            have tc3 := TV.out.cell 3
            have gc4 := R.out.cell 4
            have tc4 := TV.out.cell 4
            have gc5 := R.out.cell 5
            have tc5 := TV.out.cell 5
            have gc6 := R.out.cell 6
            have tc6 := TV.out.cell 6
            have gc7 := R.out.cell 7
            have tc7 := TV.out.cell 7
            have ec0 := E.out.cell 0
            have uc0 := UV.out.cell 0
            have ec1 := E.out.cell 1
            have uc1 := UV.out.cell 1
            have ec2 := E.out.cell 2
            have uc2 := UV.out.cell 2
            have ec3 := E.out.cell 3
            have uc3 := UV.out.cell 3
            simp only [List.getElem?_cons_zero, List.getElem?_cons_succ] at gc0 gc1 gc2 gc3 gc4 gc5 gc6 gc7 tc0 tc1 tc2 tc3 tc4 tc5 tc6 tc7 ec0 ec1 ec2 ec3 uc0 uc1 uc2 uc3
            have gl := R.out.lt
            have tl := TV.out.lt
            have el := E.out.lt
            have ul := UV.out.lt
            obtain ⟨cX0, cX1⟩ := X.out.two
            have lX := X.out.lt
            obtain ⟨cY0, cY1⟩ := Y.out.two
            have lY := Y.out.lt
            refine wp_region_kin (by kernel_rfl) (by kernel_rfl) y3.heap.size 0 (by simp) (fun hk => ?_)
            repeat (go_big_quiet_step (first | (go_at_call 20; first | with_reducible exact Calls.kin (CP.out _ (HT.out.next (Kin.below _)))) | (go_at_call 21; first | with_reducible exact Calls.kin (CR.out _))))
            refine wpQuiet_nil ?_
            clear hk
            intro w10 hb
            replace HT := Lib.hid (HT.out.next hb)
            replace HB1 := Lib.hid (HB1.out.next hb)
            replace BB := Lib.hid (Below.andThen BB.out hb)
            clear hb
            clear cX0 cX1 lX cY0 cY1 lY
            clear gc0 gc1 gc2 gc3 gc4 gc5 gc6 gc7 tc0 tc1 tc2 tc3 tc4 tc5 tc6 tc7 ec0 ec1 ec2 ec3 uc0 uc1 uc2 uc3 gl tl el ul R E TV UV X Y
            go_wp2_with fail
            go_roundw
            case rel => exact ⟨k + 1, by omega, by go_num, HB1.out⟩
            case measure => simp [intOf]; omega
namespace rationalMatchesReference
theorem flat0 : leafsOf Tryz.prog 5 23 = some [some none, some none] := by kernel_rfl
theorem flat1 : leafsOf Tryz.prog 5 23 = some [some none, some none] := by kernel_rfl
theorem flat2 : leafsOf Tryz.prog 5 24 = some [some (some .i64), some (some .i64), some (some .i64), some (some .i64)] := by kernel_rfl
theorem flat3 : leafsOf Tryz.prog 5 24 = some [some (some .i64), some (some .i64), some (some .i64), some (some .i64)] := by kernel_rfl
theorem flat4 : leafsOf Tryz.prog 5 25 = some [some (some .i64), some (some .i64)] := by kernel_rfl
set_option maxRecDepth 100000 in
theorem contract (H : Type) (enc : TypeId × Value → H) (W : World) (base : Nat) (args : Array Value) (ds gs : List (DataW H)) (before : List MemPlace)
    (hval : ∀ (j : Nat) t v, Tryz.f3.params[j]? = some t → args[j]? = some v → Value.okWide Tryz.prog W .any base t v)
    (hW : DataW.Whole enc Tryz.prog Tryz.f3.params.toList Rows.rationalMatchesReferenceSpec.vars false W args.toList ds gs before) (hL : laidMetH Tryz.prog Rows.rationalMatchesReferenceRow.laid W) (hsh : W.ShapedOpen Tryz.prog) :
    Calls Tryz.prog 3 args W fun e W' => ∃ v, e = .returned v ∧ Rows.rationalMatchesReferenceSpec.post enc Tryz.prog Tryz.f3 false true false false W args v W' := by
  have hW' := hW
  obtain ⟨p, q, hA0, hV, rfl, hfz, hnd⟩ := hW
  have hA : DataW.TrodAll enc Tryz.prog W 0 (fun _ => true) true Tryz.f3.params.toList args.toList ds p := hA0
  rw [Tryz.params3] at hA hval
  obtain ⟨v0, vs0, d0, ds0, p0, q0, hargs, rfl, rfl, h0, r0⟩ := trodAll_cons hA
  obtain ⟨v1, vs1, d1, ds1, p1, q1, rfl, rfl, rfl, h1, r1⟩ := trodAll_cons r0
  obtain ⟨v2, vs2, d2, ds2, p2, q2, rfl, rfl, rfl, h2, r2⟩ := trodAll_cons r1
  obtain ⟨v3, vs3, d3, ds3, p3, q3, rfl, rfl, rfl, h3, r3⟩ := trodAll_cons r2
  obtain ⟨v4, vs4, d4, ds4, p4, q4, rfl, rfl, rfl, h4, r4⟩ := trodAll_cons r3
  obtain ⟨v5, vs5, d5, ds5, p5, q5, rfl, rfl, rfl, h5, r5⟩ := trodAll_cons r4
  obtain ⟨v6, vs6, d6, ds6, p6, q6, rfl, rfl, rfl, h6, r6⟩ := trodAll_cons r5
  obtain ⟨v7, vs7, d7, ds7, p7, q7, rfl, rfl, rfl, h7, r7⟩ := trodAll_cons r6
  obtain ⟨rfl, rfl, rfl⟩ := trodAll_nil r7
  obtain rfl : args = #[v0, v1, v2, v3, v4, v5, v6, v7] := by cases args; simp_all
  obtain ⟨cs0, rfl, c0x0, rs0x0, rfl, ⟨a0, rfl, k0⟩, c0x1, rs0x1, rfl, ⟨a1, rfl, k1⟩, rfl⟩ := open_agg 5 flat0 (by kernel_rfl) (hval 0 _ _ rfl rfl) h0
  obtain ⟨cs1, rfl, c1x0, rs1x0, rfl, ⟨a2, rfl, k2⟩, c1x1, rs1x1, rfl, ⟨a3, rfl, k3⟩, rfl⟩ := open_agg 5 flat1 (by kernel_rfl) (hval 1 _ _ rfl rfl) h1
  obtain ⟨cs2, rfl, c2x0, rs2x0, rfl, ⟨a4, rfl, k4⟩, c2x1, rs2x1, rfl, ⟨a5, rfl, k5⟩, c2x2, rs2x2, rfl, ⟨a6, rfl, k6⟩, c2x3, rs2x3, rfl, ⟨a7, rfl, k7⟩, rfl⟩ := open_agg 5 flat2 (by kernel_rfl) (hval 2 _ _ rfl rfl) h2
  obtain ⟨cs3, rfl, c3x0, rs3x0, rfl, ⟨a8, rfl, k8⟩, c3x1, rs3x1, rfl, ⟨a9, rfl, k9⟩, c3x2, rs3x2, rfl, ⟨a10, rfl, k10⟩, c3x3, rs3x3, rfl, ⟨a11, rfl, k11⟩, rfl⟩ := open_agg 5 flat3 (by kernel_rfl) (hval 3 _ _ rfl rfl) h3
  obtain ⟨cs4, rfl, c4x0, rs4x0, rfl, ⟨a12, rfl, k12⟩, c4x1, rs4x1, rfl, ⟨a13, rfl, k13⟩, rfl⟩ := open_agg 5 flat4 (by kernel_rfl) (hval 4 _ _ rfl rfl) h4
  obtain ⟨a14, rfl, rfl, rfl, k14⟩ := open_int Tryz.underlying3 (hval 5 _ _ rfl rfl) h5
  obtain ⟨a15, rfl, rfl, rfl, k15⟩ := open_int Tryz.underlying3 (hval 6 _ _ rfl rfl) h6
  obtain ⟨a16, rfl, rfl, rfl, k16⟩ := open_int Tryz.underlying3 (hval 7 _ _ rfl rfl) h7
  refine (rationalMatches_law a0 a1 a2 a3 a4 a5 a6 a7 a8 a9 a10 a11 a12 a13 a14 a15 a16 W (rwT hL hsh) k0 k1 k2 k3 (bd_i64 k4) (bd_i64 k5) (bd_i64 k6) (bd_i64 k7) (bd_i64 k8) (bd_i64 k9) (bd_i64 k10) (bd_i64 k11) (bd_i64 k12) (bd_i64 k13) (bd_i64 k14) (bd_i64 k15) (bd_i64 k16)).mono fun e W' ⟨he, hb⟩ => ?_
  subst he
  obtain ⟨rfl, _⟩ := trodVars_none hV
  exact ⟨_, rfl, law_post laidOut (by kernel_rfl) rfl (by kernel_rfl) Tryz.underlying4 hW' rfl hb⟩

noncomputable def laidWorld (os : Os) : World := World.laidAll Tryz.prog os Rows.rationalMatchesReferenceRow.laid
def args0 : Array Value := #[.agg #[.string ⟨#[]⟩, .string ⟨#[]⟩], .agg #[.string ⟨#[]⟩, .string ⟨#[]⟩], .agg #[.int .i64 0, .int .i64 0, .int .i64 0, .int .i64 0], .agg #[.int .i64 0, .int .i64 0, .int .i64 0, .int .i64 0], .agg #[.int .i64 0, .int .i64 0], .int .i64 0, .int .i64 0, .int .i64 0]
theorem laid_met (os : Os) : laidMet Tryz.prog Rows.rationalMatchesReferenceRow.laid ((laidWorld os).forCall (fun _ _ => 0) ⟨#[], args0, []⟩).memory :=
  laidMet_laidAll _ (by kernel_rfl) (by kernel_rfl)
theorem reads (os : Os) {H : Type} (enc : TypeId × Value → H) : ∃ places, DataW.whole enc Tryz.prog ((laidWorld os).forCall (fun _ _ => 0) ⟨#[], args0, []⟩).memory Tryz.f3.params.toList Rows.rationalMatchesReferenceSpec.vars false args0.toList 8 = some ([.agg [.lit (.string []), .lit (.string [])], .agg [.lit (.string []), .lit (.string [])], .agg [.lit (.int .i64 0), .lit (.int .i64 0), .lit (.int .i64 0), .lit (.int .i64 0)], .agg [.lit (.int .i64 0), .lit (.int .i64 0), .lit (.int .i64 0), .lit (.int .i64 0)], .agg [.lit (.int .i64 0), .lit (.int .i64 0)], .lit (.int .i64 0), .lit (.int .i64 0), .lit (.int .i64 0)], [], places) :=
  ⟨[], by kernel_rfl⟩

set_option maxRecDepth 100000 in
theorem lifted (os : Os) (started : os.Started) (H : Type) (enc : TypeId × Value → H) (F : Stop.Interp) :
    ReturnsInHanded {} Tryz.checked os 3 .any ((OpenSpec.ofChange Rows.rationalMatchesReferenceSpec).preRow enc Tryz.prog Tryz.f3 Rows.rationalMatchesReferenceRow.domain false Rows.rationalMatchesReferenceRow.laid) (((OpenSpec.ofChange Rows.rationalMatchesReferenceSpec).at F).post enc Tryz.prog Tryz.f3 false true false false) := by
  obtain ⟨places, hx⟩ := reads os enc
  refine returnsInHanded_of_row (C := Tryz.checked) (s := OpenSpec.ofChange Rows.rationalMatchesReferenceSpec) own started (by kernel_rfl) Tryz.func3
    (witness_row_at (enc := enc) (C := Tryz.checked) false (laidWorld os) args0 (World.laidAll_os _ _ _) (by kernel_rfl) (by kernel_rfl) (by kernel_rfl)
      (OpenSpec.preRow_of_cond 8 hx (by kernel_rfl) (fun k hk => by cases hk) (by kernel_rfl) (laid_met os))) ?_
  intro W base args ds gs before hval hW _ _ _ hL hsh _
  exact contract H enc W base args ds gs before hval hW hL hsh

theorem said : Rows.RationalMatchesReferenceSaid :=
  OpenClaim.holds_of_cond 3 Tryz.f3 rfl rfl rfl rfl rfl rfl rfl ⟨rfl, rfl, rfl, rfl, rfl⟩ rfl rfl rfl rfl rfl (by kernel_rfl) Tryz.func3 (by kernel_rfl)
    (of_decide_eq_true (by kernel_rfl)) (by unfold Func.isWrapper; first | (rw [if_pos (by decide +kernel)]; kernel_rfl) | (rw [if_neg (by decide +kernel)]; exact ⟨rfl, rfl⟩))
    (fun os started H enc _ F => by rw [OpenClaim.pre_eq_preRow]; exact lifted os started H enc F)

theorem plain (f : FuncId) (fn : Func) (hf : Tryz.pinned.checked.prog.funcNamed "newswire/newswirelaw04.RationalMatchesReference" = some f) (hfn : Tryz.pinned.checked.prog.funcs[f]? = some fn) :
    false = Tryz.pinned.checked.prog.looks [] ∧ ∀ (j : Nat) t, fn.params[j]? = some t → Tryz.pinned.checked.prog.wantsStandIn t = false := by
  obtain rfl : f = 3 := Option.some.inj ((show Tryz.prog.funcNamed "newswire/newswirelaw04.RationalMatchesReference" = some 3 by kernel_rfl).symm.trans hf) |>.symm
  obtain rfl : fn = Tryz.f3 := (Option.some.inj (Tryz.func3.symm.trans hfn)).symm
  refine ⟨by kernel_rfl, fun j t ht => ?_⟩
  have all : (Tryz.f3.params.toList.all fun t => Tryz.prog.wantsStandIn t == false) = true := by kernel_rfl
  have := List.all_eq_true.1 all t (by rw [← Array.mem_def]; exact Array.mem_of_getElem? ht)
  exact (show Tryz.prog.wantsStandIn t = false by simpa using this)

/-- The statement. -/
theorem card : Rows.RationalMatchesReferenceCardSaid :=
  Claim7.holds_tied_plain_at .later [] _ _ _ _ said (fun _ h => by cases h) (by kernel_rfl) (fun _ h => by cases h) rationalMatchesReference_row_tie rfl ⟨rfl, rfl⟩ (by kernel_rfl) rfl plain (by kernel_rfl)
end rationalMatchesReference
end Go.Proofs.YtlehjmanlccncaaGreatDoor
