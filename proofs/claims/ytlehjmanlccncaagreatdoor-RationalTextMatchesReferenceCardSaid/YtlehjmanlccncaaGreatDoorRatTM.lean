/- For every input, RationalTextMatchesReference returns true; the listed tables hold what the program's text lays. -/
import Derived.Test.YtlehjmanlccncaaGreatDoorRatTN
import Derived.Deep.RegionHeld3
set_option linter.unusedVariables false
set_option linter.unusedSimpArgs false
namespace Go.Proofs.YtlehjmanlccncaaGreatDoor
open Go.RowKit Go.ChangeShapes Go.WideShapes Go.ChangeAt

/-- new blocks alone since v -/
def Since (v w : World) : Prop := Below v.heap.size v w
theorem Since.next {v w w' : World} (h : Since v w) (hb : Below w.heap.size w w') : Since v w' := Below.andThen h hb
/-- the conversion of one byte -/
def convB : Op := Op.convert 48 9 (Operand.tmp 86)
attribute [local go_sem] convB
set_option maxRecDepth 100000 in
set_option maxHeartbeats 8000000 in
theorem rationalText_law (s1 s2 : ByteArray) (x0 x1 x2 x3 at0 ch : Int) (raw : ByteArray) (w : World) (T : RW w) (hs1 : s1.size ≤ maxLen) (hs2 : s2.size ≤ maxLen)
    (h0 : -9223372036854775808 ≤ x0 ∧ x0 ≤ 9223372036854775807) (h1 : -9223372036854775808 ≤ x1 ∧ x1 ≤ 9223372036854775807) (h2 : -9223372036854775808 ≤ x2 ∧ x2 ≤ 9223372036854775807) (h3 : -9223372036854775808 ≤ x3 ∧ x3 ≤ 9223372036854775807)
    (ha : -9223372036854775808 ≤ at0 ∧ at0 ≤ 9223372036854775807) (hc : 0 ≤ ch ∧ ch ≤ 255) (hraw : raw.size ≤ maxLen) :
    Calls Tryz.prog 4 #[.agg #[.string s1, .string s2], .agg #[.int .i64 x0, .int .i64 x1, .int .i64 x2, .int .i64 x3], .int .i64 at0, .int .u8 ch, .string raw] w fun r w' => r = .returned (.bool true) ∧ Below w.heap.size w w' := by
  have HT := Lib.hid T
  have HT0 := Lib.hid T
  have BB := Lib.hid (Below.refl w.heap.size w)
  have HS := Lib.hid sane_any
  have CC := Lib.hid (fun W => cut_r (s1, s2) W)
  have CL := Lib.hid (fun W => Long_any x0 x1 x2 x3 W h0 h1 h2 h3)
  clear T h0 h1 h2 h3
  go_enter Tryz.func4, Tryz.ntmps4
  go_upto_region 1 with (fail)
  refine wp_named fun w1 hq => ?_
  obtain ⟨bX, ebX⟩ : ∃ b, b = w.heap.size := ⟨_, rfl⟩
  obtain ⟨bY, ebY⟩ : ∃ b, b = w.heap.size + 1 := ⟨_, rfl⟩
  have R1 : Row w1 bX 23 [.string s1, .string s2] ∧ Row w1 bY 24 [.int .i64 x0, .int .i64 x1, .int .i64 x2, .int .i64 x3] ∧ Below w.heap.size w w1 := by
    rw [hq, ebX, ebY]
    refine ⟨(Row.new w _ [.string s1, .string s2]).alloc _, ?_, ((Below.refl _ _).alloc (Nat.le_refl _) _).alloc (by simp) _⟩
    have h := Row.new (w.alloc (.cells #[.string s1, .string s2] 23)) 24 [.int .i64 x0, .int .i64 x1, .int .i64 x2, .int .i64 x3]
    rw [World.size_alloc] at h
    exact h
  rw [← ebY, ← ebX]
  have X := Lib.hid R1.1
  have Y := Lib.hid R1.2.1
  replace BB := Lib.hid R1.2.2
  replace HT := Lib.hid (HT.out.next R1.2.2)
  clear hq R1 ebX ebY
  go_wp2_with fail
  with_reducible refine Calls.mono (HS.out _ HT.out) ?_
  rintro e w2 ⟨rfl, hb⟩
  replace HT := Lib.hid (HT.out.next hb)
  replace X := Lib.hid (X.out.next hb)
  replace Y := Lib.hid (Y.out.next hb)
  replace BB := Lib.hid (Below.andThen BB.out hb)
  clear hb
  go_upto_region 2 with (fail)
  have cX0 := (Y.out.cell 0).trans (show _ = some (Value.int .i64 _) from rfl)
  have cX1 := (Y.out.cell 1).trans (show _ = some (Value.int .i64 _) from rfl)
  have cX2 := (Y.out.cell 2).trans (show _ = some (Value.int .i64 _) from rfl)
  have cX3 := (Y.out.cell 3).trans (show _ = some (Value.int .i64 _) from rfl)
  have lX := Y.out.lt
  go_wp2_with fail
  clear cX0 cX1 cX2 cX3 lX Y
  with_reducible refine Calls.mono (CL.out _) ?_
  rintro e w3 ⟨p, rfl, hp, -, -, hb⟩
  replace HT := Lib.hid (HT.out.next hb)
  replace X := Lib.hid (X.out.next hb)
  replace BB := Lib.hid (Below.andThen BB.out hb)
  clear hb
  clear CL HS
  obtain ⟨p1, p2, ep⟩ : ∃ u1 u2, Ra.tx (some p) = (u1, u2) := ⟨_, _, rfl⟩
  rw [ep]
  go_upto_region 3 with (fail)
  refine wp_named fun v3 hq => ?_
  obtain ⟨bM, ebM⟩ : ∃ b, b = w3.heap.size := ⟨_, rfl⟩
  have M := Lib.hid (show Row v3 bM 23 [.string p1, .string p2] from by rw [hq, ebM]; first | exact Row.new _ _ _ | exact ((Row.new w3 23 [.string ⟨#[]⟩, .string ⟨#[]⟩]).set 0 (.string p1)).set 1 (.string p2))
  have hb : Below w3.heap.size w3 v3 := by rw [hq]; first | exact (Below.refl _ _).alloc (Nat.le_refl _) _ | exact (((Below.refl _ _).alloc (Nat.le_refl _) _).setCell (p := ⟨w3.heap.size, 0, none⟩) (Nat.le_refl _) _).setCell (p := ⟨w3.heap.size, 1, none⟩) (Nat.le_refl _) _
  replace HT := Lib.hid (HT.out.next hb)
  replace X := Lib.hid (X.out.next hb)
  replace BB := Lib.hid (Below.andThen BB.out hb)
  rw [← ebM]
  clear hq hb ebM
  have hg1 := cutB_size s1 (n := 210) (by decide)
  have hg2 := cutB_size s2 (n := 210) (by decide)
  generalize cutB s1 210 = g1 at *
  generalize cutB s2 210 = g2 at *
  have CELLS := Lib.hid (fun (W : World) (h : Below v3.heap.size v3 W) => show W.cell? ⟨bX, 0, none⟩ = some (.string s1) ∧ W.cell? ⟨bX, 1, none⟩ = some (.string s2) ∧ W.cell? ⟨bM, 0, none⟩ = some (.string p1) ∧ W.cell? ⟨bM, 1, none⟩ = some (.string p2) from
    ⟨(X.out.next h).two.1, (X.out.next h).two.2, (M.out.next h).two.1, (M.out.next h).two.2⟩)
  have hB0 : Below v3.heap.size v3 v3 := Below.refl _ _
  obtain ⟨k0, k1, k2, k3⟩ := CELLS.out v3 hB0
  have l0 := X.out.lt
  have l1 := M.out.lt
  (go_region_held3 (fun w' => w'.cell? ⟨bX, 0, none⟩ = some (.string s1) ∧ w'.cell? ⟨bX, 1, none⟩ = some (.string s2) ∧ w'.cell? ⟨bM, 0, none⟩ = some (.string p1) ∧ w'.cell? ⟨bM, 1, none⟩ = some (.string p2)) (first | exact ⟨by assumption, by assumption, by assumption, by assumption⟩ | exact CELLS.out _ ((by assumption : Below v3.heap.size v3 _).alloc (by assumption : Below v3.heap.size v3 _).size _) | go_keep)
    (first
      | (go_at_call 12
         refine Calls.mono (CC.out _) ?_
         rintro e w4 ⟨rfl, hb4⟩
         have hB4 := Below.andThen (by first | assumption | exact Below.drew (by assumption) : Below v3.heap.size v3 _) hb4
         obtain ⟨k10, k11, k12, k13⟩ := CELLS.out w4 hB4)))
  all_goals
    generalize hq : World.alloc w4 _ = v4
    obtain ⟨bL, ebL⟩ : ∃ b, b = w4.heap.size := ⟨_, rfl⟩
    have L := Lib.hid (show Row v4 bL 23 [.string g1, .string g2, .string p1, .string p2] from by rw [← hq, ebL]; exact Row.new _ _ _)
    have hb : Below v3.heap.size v3 v4 := by rw [← hq]; exact hB4.alloc hB4.size _
    rw [← ebL]
    clear hq ebL CELLS hB0 hB4 hb4 k0 k1 k2 k3 k10 k11 k12 k13 l0 l1 X CC
    replace HT := Lib.hid (HT.out.next hb)
    replace M := Lib.hid (M.out.next hb)
    replace BB := Lib.hid (Below.andThen BB.out hb)
    clear hb
    have vp : Ra.val (p1, p2) = some p := by rw [← ep]; exact Ra.val_tx hp
    have hpm1 : p1.size ≤ 201 := num_size (Ra.val_some vp).2.2.1
    have hpm2 : p2.size ≤ 201 := num_size (Ra.val_some vp).2.2.2
    obtain ⟨S, t1, t2, ee, V, hS, hR, hV, hSz, hK⟩ := pair_key (g1, g2)
    obtain ⟨S', t1', t2', ee', V', hS', hR', hV', hSz', hK'⟩ := pair_key (p1, p2)
    have hne : S'.size ≠ 0 := by
      rw [← hS', vp]
      exact Ra.prS_ne hp
    have CP := Lib.hid (fun W (T : RW W) => Print_r (g1, g2) W T.tab)
    have CQ := Lib.hid (fun W (T : RW W) => Parse_r S W T (by omega))
    have CR := Lib.hid (fun W => rPrint_r (g1, g2) W (Nat.le_trans (show (g1).size ≤ 1000 by omega) (by decide)) (Nat.le_trans (show (g2).size ≤ 1000 by omega) (by decide)))
    have CV := Lib.hid (fun W (T : RW W) => Valid_r (g1, g2) W T.tab)
    rw [hS] at CP CR
    rw [hR] at CQ
    rw [hV] at CV
    have CP' := Lib.hid (fun W (T : RW W) => Print_r (p1, p2) W T.tab)
    have CQ' := Lib.hid (fun W (T : RW W) => Parse_r S' W T (by omega))
    have CR' := Lib.hid (fun W => rPrint_r (p1, p2) W (Nat.le_trans (show (p1).size ≤ 1000 by omega) (by decide)) (Nat.le_trans (show (p2).size ≤ 1000 by omega) (by decide)))
    have CV' := Lib.hid (fun W (T : RW W) => Valid_r (p1, p2) W T.tab)
    rw [hS'] at CP' CR'
    rw [hR'] at CQ'
    rw [hV'] at CV'
    have HK := Lib.hid hK
    have HK' := Lib.hid hK'
    clear hS hR hV hSz hK hS' hR' hV' hK' vp hpm1 hpm2 hg1 hg2 hs1 hs2
    go_wp2_with fail
    go_loopw [34] (fun iv wr => ∃ i : Nat, i ≤ 2 ∧ iv = .int .i64 i ∧ Below v4.heap.size v4 wr) (fun iv _ => 2 - (intOf iv).toNat)
    case atStart => exact ⟨0, by omega, rfl, Below.refl _ _⟩
    case round =>
      obtain ⟨i, hi, rfl, hb0⟩ := hrel
      have HB0 := Lib.hid (show Since v4 _ from hb0)
      have hb := hb0
      clear hb0
      replace HT := Lib.hid (HT.out.next hb)
      replace M := Lib.hid (M.out.next hb)
      replace L := Lib.hid (L.out.next hb)
      replace BB := Lib.hid (Below.andThen BB.out hb)
      clear hb
      rename World => wr
      have hi3 : i = 0 ∨ i = 1 ∨ i = 2 := by omega
      rcases hi3 with rfl | rfl | rfl
      · rcases HK.out with ⟨rfl, rfl, rfl⟩ | ⟨rfl, hs0, rfl, h1, h2⟩
        · have cL0 := L.out.cell 0
          have cL1 := L.out.cell 1
          have lL := L.out.lt
          simp only [List.getElem?_cons_zero, List.getElem?_cons_succ] at cL0 cL1
          go_upto_region 6 with (fail)
          refine wp_named fun v5 hq => ?_
          obtain ⟨bE, ebE⟩ : ∃ b, b = wr.heap.size := ⟨_, rfl⟩
          have E := Lib.hid (show Row v5 bE 23 [.string g1, .string g2] from by rw [hq, ebE]; first | exact Row.new _ _ _ | exact ((Row.new wr 23 [.string ⟨#[]⟩, .string ⟨#[]⟩]).set 0 (.string g1)).set 1 (.string g2))
          have hb : Below wr.heap.size wr v5 := by rw [hq]; first | exact (Below.refl _ _).alloc (Nat.le_refl _) _ | exact (((Below.refl _ _).alloc (Nat.le_refl _) _).setCell (p := ⟨wr.heap.size, 0, none⟩) (Nat.le_refl _) _).setCell (p := ⟨wr.heap.size, 1, none⟩) (Nat.le_refl _) _
          replace HT := Lib.hid (HT.out.next hb)
          replace M := Lib.hid (M.out.next hb)
          replace L := Lib.hid (L.out.next hb)
          replace HB0 := Lib.hid (HB0.out.next hb)
          replace BB := Lib.hid (Below.andThen BB.out hb)
          rw [← ebE]
          clear hq hb ebE
          clear cL0 cL1 lL
          obtain ⟨cE0, cE1⟩ := E.out.two
          have lE := E.out.lt
          go_wp2_with fail
          clear cE0 cE1 lE
          with_reducible refine Calls.mono (CP.out _ HT.out) ?_
          rintro e w6 ⟨rfl, hb⟩
          replace HT := Lib.hid (HT.out.next hb)
          replace M := Lib.hid (M.out.next hb)
          replace L := Lib.hid (L.out.next hb)
          replace E := Lib.hid (E.out.next hb)
          replace HB0 := Lib.hid (HB0.out.next hb)
          replace BB := Lib.hid (Below.andThen BB.out hb)
          clear hb
          go_wp2_with fail
          with_reducible refine Calls.mono (CQ.out _ HT.out) ?_
          rintro e w7 ⟨rfl, hb⟩
          replace HT := Lib.hid (HT.out.next hb)
          replace M := Lib.hid (M.out.next hb)
          replace L := Lib.hid (L.out.next hb)
          replace E := Lib.hid (E.out.next hb)
          replace HB0 := Lib.hid (HB0.out.next hb)
          replace BB := Lib.hid (Below.andThen BB.out hb)
          clear hb
          go_upto_region 8 with (fail)
          refine wp_named fun v7 hq => ?_
          obtain ⟨bTt, ebTt⟩ : ∃ b, b = w7.heap.size := ⟨_, rfl⟩
          have Tt := Lib.hid (show Row v7 bTt 23 [.string t1, .string t2] from by rw [hq, ebTt]; first | exact Row.new _ _ _ | exact ((Row.new w7 23 [.string ⟨#[]⟩, .string ⟨#[]⟩]).set 0 (.string t1)).set 1 (.string t2))
          have hb : Below w7.heap.size w7 v7 := by rw [hq]; first | exact (Below.refl _ _).alloc (Nat.le_refl _) _ | exact (((Below.refl _ _).alloc (Nat.le_refl _) _).setCell (p := ⟨w7.heap.size, 0, none⟩) (Nat.le_refl _) _).setCell (p := ⟨w7.heap.size, 1, none⟩) (Nat.le_refl _) _
          replace HT := Lib.hid (HT.out.next hb)
          replace M := Lib.hid (M.out.next hb)
          replace L := Lib.hid (L.out.next hb)
          replace E := Lib.hid (E.out.next hb)
          replace HB0 := Lib.hid (HB0.out.next hb)
          replace BB := Lib.hid (Below.andThen BB.out hb)
          rw [← ebTt]
          clear hq hb ebTt
          obtain ⟨cE0, cE1⟩ := E.out.two
          have lE := E.out.lt
          obtain ⟨cTt0, cTt1⟩ := Tt.out.two
          have lTt := Tt.out.lt
          go_wp2_with fail
          clear cE0 cE1 lE cTt0 cTt1 lTt
          with_reducible refine Calls.mono (CR.out _) ?_
          rintro e w8 ⟨rfl, hb⟩
          replace HT := Lib.hid (HT.out.next hb)
          replace M := Lib.hid (M.out.next hb)
          replace L := Lib.hid (L.out.next hb)
          replace E := Lib.hid (E.out.next hb)
          replace Tt := Lib.hid (Tt.out.next hb)
          replace HB0 := Lib.hid (HB0.out.next hb)
          replace BB := Lib.hid (Below.andThen BB.out hb)
          clear hb
          obtain ⟨cE0, cE1⟩ := E.out.two
          have lE := E.out.lt
          obtain ⟨cTt0, cTt1⟩ := Tt.out.two
          have lTt := Tt.out.lt
          go_wp2_with fail
          clear cE0 cE1 lE cTt0 cTt1 lTt
          with_reducible refine Calls.mono (CV.out _ HT.out) ?_
          rintro e w9 ⟨rfl, hb⟩
          replace HT := Lib.hid (HT.out.next hb)
          replace M := Lib.hid (M.out.next hb)
          replace L := Lib.hid (L.out.next hb)
          replace E := Lib.hid (E.out.next hb)
          replace Tt := Lib.hid (Tt.out.next hb)
          replace HB0 := Lib.hid (HB0.out.next hb)
          replace BB := Lib.hid (Below.andThen BB.out hb)
          clear hb
          obtain ⟨cE0, cE1⟩ := E.out.two
          have lE := E.out.lt
          obtain ⟨cTt0, cTt1⟩ := Tt.out.two
          have lTt := Tt.out.lt
          go_wp2_with fail
          clear cE0 cE1 lE cTt0 cTt1 lTt
          with_reducible refine Calls.mono (CV.out _ HT.out) ?_
          rintro e w10 ⟨rfl, hb⟩
          replace HT := Lib.hid (HT.out.next hb)
          replace M := Lib.hid (M.out.next hb)
          replace L := Lib.hid (L.out.next hb)
          replace HB0 := Lib.hid (HB0.out.next hb)
          replace BB := Lib.hid (Below.andThen BB.out hb)
          clear hb
          go_wp2_with fail
          go_roundw
          case rel => exact ⟨0 + 1, by omega, rfl, HB0.out⟩
          case measure => simp [intOf]
        · subst h1
          subst h2
          have hs1 : (S.toList == ([] : List UInt8)) = false := by rw [bytes_nil]; exact decide_eq_false hs0
          have cL0 := L.out.cell 0
          have cL1 := L.out.cell 1
          have lL := L.out.lt
          simp only [List.getElem?_cons_zero, List.getElem?_cons_succ] at cL0 cL1
          go_upto_region 6 with (fail)
          refine wp_named fun v5 hq => ?_
          obtain ⟨bE, ebE⟩ : ∃ b, b = wr.heap.size := ⟨_, rfl⟩
          have E := Lib.hid (show Row v5 bE 23 [.string t1, .string t2] from by rw [hq, ebE]; first | exact Row.new _ _ _ | exact ((Row.new wr 23 [.string ⟨#[]⟩, .string ⟨#[]⟩]).set 0 (.string t1)).set 1 (.string t2))
          have hb : Below wr.heap.size wr v5 := by rw [hq]; first | exact (Below.refl _ _).alloc (Nat.le_refl _) _ | exact (((Below.refl _ _).alloc (Nat.le_refl _) _).setCell (p := ⟨wr.heap.size, 0, none⟩) (Nat.le_refl _) _).setCell (p := ⟨wr.heap.size, 1, none⟩) (Nat.le_refl _) _
          replace HT := Lib.hid (HT.out.next hb)
          replace M := Lib.hid (M.out.next hb)
          replace L := Lib.hid (L.out.next hb)
          replace HB0 := Lib.hid (HB0.out.next hb)
          replace BB := Lib.hid (Below.andThen BB.out hb)
          rw [← ebE]
          clear hq hb ebE
          clear cL0 cL1 lL
          obtain ⟨cE0, cE1⟩ := E.out.two
          have lE := E.out.lt
          go_wp2_with fail
          clear cE0 cE1 lE
          with_reducible refine Calls.mono (CP.out _ HT.out) ?_
          rintro e w6 ⟨rfl, hb⟩
          replace HT := Lib.hid (HT.out.next hb)
          replace M := Lib.hid (M.out.next hb)
          replace L := Lib.hid (L.out.next hb)
          replace E := Lib.hid (E.out.next hb)
          replace HB0 := Lib.hid (HB0.out.next hb)
          replace BB := Lib.hid (Below.andThen BB.out hb)
          clear hb
          go_wp2_with fail
          with_reducible refine Calls.mono (CQ.out _ HT.out) ?_
          rintro e w7 ⟨rfl, hb⟩
          replace HT := Lib.hid (HT.out.next hb)
          replace M := Lib.hid (M.out.next hb)
          replace L := Lib.hid (L.out.next hb)
          replace E := Lib.hid (E.out.next hb)
          replace HB0 := Lib.hid (HB0.out.next hb)
          replace BB := Lib.hid (Below.andThen BB.out hb)
          clear hb
          go_upto_region 8 with (fail)
          refine wp_named fun v7 hq => ?_
          obtain ⟨bTt, ebTt⟩ : ∃ b, b = w7.heap.size := ⟨_, rfl⟩
          have Tt := Lib.hid (show Row v7 bTt 23 [.string t1, .string t2] from by rw [hq, ebTt]; first | exact Row.new _ _ _ | exact ((Row.new w7 23 [.string ⟨#[]⟩, .string ⟨#[]⟩]).set 0 (.string t1)).set 1 (.string t2))
          have hb : Below w7.heap.size w7 v7 := by rw [hq]; first | exact (Below.refl _ _).alloc (Nat.le_refl _) _ | exact (((Below.refl _ _).alloc (Nat.le_refl _) _).setCell (p := ⟨w7.heap.size, 0, none⟩) (Nat.le_refl _) _).setCell (p := ⟨w7.heap.size, 1, none⟩) (Nat.le_refl _) _
          replace HT := Lib.hid (HT.out.next hb)
          replace M := Lib.hid (M.out.next hb)
          replace L := Lib.hid (L.out.next hb)
          replace E := Lib.hid (E.out.next hb)
          replace HB0 := Lib.hid (HB0.out.next hb)
          replace BB := Lib.hid (Below.andThen BB.out hb)
          rw [← ebTt]
          clear hq hb ebTt
          obtain ⟨cE0, cE1⟩ := E.out.two
          have lE := E.out.lt
          obtain ⟨cTt0, cTt1⟩ := Tt.out.two
          have lTt := Tt.out.lt
          go_wp2_with fail
          clear cE0 cE1 lE cTt0 cTt1 lTt
          with_reducible refine Calls.mono (CR.out _) ?_
          rintro e w8 ⟨rfl, hb⟩
          replace HT := Lib.hid (HT.out.next hb)
          replace M := Lib.hid (M.out.next hb)
          replace L := Lib.hid (L.out.next hb)
          replace E := Lib.hid (E.out.next hb)
          replace Tt := Lib.hid (Tt.out.next hb)
          replace HB0 := Lib.hid (HB0.out.next hb)
          replace BB := Lib.hid (Below.andThen BB.out hb)
          clear hb
          obtain ⟨cE0, cE1⟩ := E.out.two
          have lE := E.out.lt
          obtain ⟨cTt0, cTt1⟩ := Tt.out.two
          have lTt := Tt.out.lt
          go_wp2_with fail
          clear cE0 cE1 lE cTt0 cTt1 lTt
          with_reducible refine Calls.mono (CV.out _ HT.out) ?_
          rintro e w9 ⟨rfl, hb⟩
          replace HT := Lib.hid (HT.out.next hb)
          replace M := Lib.hid (M.out.next hb)
          replace L := Lib.hid (L.out.next hb)
          replace E := Lib.hid (E.out.next hb)
          replace Tt := Lib.hid (Tt.out.next hb)
          replace HB0 := Lib.hid (HB0.out.next hb)
          replace BB := Lib.hid (Below.andThen BB.out hb)
          clear hb
          obtain ⟨cE0, cE1⟩ := E.out.two
          have lE := E.out.lt
          obtain ⟨cTt0, cTt1⟩ := Tt.out.two
          have lTt := Tt.out.lt
          go_wp2_with fail
          clear cE0 cE1 lE cTt0 cTt1 lTt
          with_reducible refine Calls.mono (CV.out _ HT.out) ?_
          rintro e w10 ⟨rfl, hb⟩
          replace HT := Lib.hid (HT.out.next hb)
          replace M := Lib.hid (M.out.next hb)
          replace L := Lib.hid (L.out.next hb)
          replace HB0 := Lib.hid (HB0.out.next hb)
          replace BB := Lib.hid (Below.andThen BB.out hb)
          clear hb
          go_wp2_with fail
          go_roundw
          case rel => exact ⟨0 + 1, by omega, rfl, HB0.out⟩
          case measure => simp [intOf]
      · rcases HK'.out with ⟨rfl, rfl, rfl⟩ | ⟨rfl, hs0, rfl, h1, h2⟩
        · have cL2 := L.out.cell 2
          have cL3 := L.out.cell 3
          have lL := L.out.lt
          simp only [List.getElem?_cons_zero, List.getElem?_cons_succ] at cL2 cL3
          go_upto_region 6 with (fail)
          refine wp_named fun v5 hq => ?_
          obtain ⟨bE, ebE⟩ : ∃ b, b = wr.heap.size := ⟨_, rfl⟩
          have E := Lib.hid (show Row v5 bE 23 [.string p1, .string p2] from by rw [hq, ebE]; first | exact Row.new _ _ _ | exact ((Row.new wr 23 [.string ⟨#[]⟩, .string ⟨#[]⟩]).set 0 (.string p1)).set 1 (.string p2))
          have hb : Below wr.heap.size wr v5 := by rw [hq]; first | exact (Below.refl _ _).alloc (Nat.le_refl _) _ | exact (((Below.refl _ _).alloc (Nat.le_refl _) _).setCell (p := ⟨wr.heap.size, 0, none⟩) (Nat.le_refl _) _).setCell (p := ⟨wr.heap.size, 1, none⟩) (Nat.le_refl _) _
          replace HT := Lib.hid (HT.out.next hb)
          replace M := Lib.hid (M.out.next hb)
          replace L := Lib.hid (L.out.next hb)
          replace HB0 := Lib.hid (HB0.out.next hb)
          replace BB := Lib.hid (Below.andThen BB.out hb)
          rw [← ebE]
          clear hq hb ebE
          clear cL2 cL3 lL
          obtain ⟨cE0, cE1⟩ := E.out.two
          have lE := E.out.lt
          go_wp2_with fail
          clear cE0 cE1 lE
          with_reducible refine Calls.mono (CP'.out _ HT.out) ?_
          rintro e w6 ⟨rfl, hb⟩
          replace HT := Lib.hid (HT.out.next hb)
          replace M := Lib.hid (M.out.next hb)
          replace L := Lib.hid (L.out.next hb)
          replace E := Lib.hid (E.out.next hb)
          replace HB0 := Lib.hid (HB0.out.next hb)
          replace BB := Lib.hid (Below.andThen BB.out hb)
          clear hb
          go_wp2_with fail
          with_reducible refine Calls.mono (CQ'.out _ HT.out) ?_
          rintro e w7 ⟨rfl, hb⟩
          replace HT := Lib.hid (HT.out.next hb)
          replace M := Lib.hid (M.out.next hb)
          replace L := Lib.hid (L.out.next hb)
          replace E := Lib.hid (E.out.next hb)
          replace HB0 := Lib.hid (HB0.out.next hb)
          replace BB := Lib.hid (Below.andThen BB.out hb)
          clear hb
          go_upto_region 8 with (fail)
          refine wp_named fun v7 hq => ?_
          obtain ⟨bTt, ebTt⟩ : ∃ b, b = w7.heap.size := ⟨_, rfl⟩
          have Tt := Lib.hid (show Row v7 bTt 23 [.string t1', .string t2'] from by rw [hq, ebTt]; first | exact Row.new _ _ _ | exact ((Row.new w7 23 [.string ⟨#[]⟩, .string ⟨#[]⟩]).set 0 (.string t1')).set 1 (.string t2'))
          have hb : Below w7.heap.size w7 v7 := by rw [hq]; first | exact (Below.refl _ _).alloc (Nat.le_refl _) _ | exact (((Below.refl _ _).alloc (Nat.le_refl _) _).setCell (p := ⟨w7.heap.size, 0, none⟩) (Nat.le_refl _) _).setCell (p := ⟨w7.heap.size, 1, none⟩) (Nat.le_refl _) _
          replace HT := Lib.hid (HT.out.next hb)
          replace M := Lib.hid (M.out.next hb)
          replace L := Lib.hid (L.out.next hb)
          replace E := Lib.hid (E.out.next hb)
          replace HB0 := Lib.hid (HB0.out.next hb)
          replace BB := Lib.hid (Below.andThen BB.out hb)
          rw [← ebTt]
          clear hq hb ebTt
          obtain ⟨cE0, cE1⟩ := E.out.two
          have lE := E.out.lt
          obtain ⟨cTt0, cTt1⟩ := Tt.out.two
          have lTt := Tt.out.lt
          go_wp2_with fail
          clear cE0 cE1 lE cTt0 cTt1 lTt
          with_reducible refine Calls.mono (CR'.out _) ?_
          rintro e w8 ⟨rfl, hb⟩
          replace HT := Lib.hid (HT.out.next hb)
          replace M := Lib.hid (M.out.next hb)
          replace L := Lib.hid (L.out.next hb)
          replace E := Lib.hid (E.out.next hb)
          replace Tt := Lib.hid (Tt.out.next hb)
          replace HB0 := Lib.hid (HB0.out.next hb)
          replace BB := Lib.hid (Below.andThen BB.out hb)
          clear hb
          obtain ⟨cE0, cE1⟩ := E.out.two
          have lE := E.out.lt
          obtain ⟨cTt0, cTt1⟩ := Tt.out.two
          have lTt := Tt.out.lt
          go_wp2_with fail
          clear cE0 cE1 lE cTt0 cTt1 lTt
          with_reducible refine Calls.mono (CV'.out _ HT.out) ?_
          rintro e w9 ⟨rfl, hb⟩
          replace HT := Lib.hid (HT.out.next hb)
          replace M := Lib.hid (M.out.next hb)
          replace L := Lib.hid (L.out.next hb)
          replace E := Lib.hid (E.out.next hb)
          replace Tt := Lib.hid (Tt.out.next hb)
          replace HB0 := Lib.hid (HB0.out.next hb)
          replace BB := Lib.hid (Below.andThen BB.out hb)
          clear hb
          obtain ⟨cE0, cE1⟩ := E.out.two
          have lE := E.out.lt
          obtain ⟨cTt0, cTt1⟩ := Tt.out.two
          have lTt := Tt.out.lt
          go_wp2_with fail
          clear cE0 cE1 lE cTt0 cTt1 lTt
          with_reducible refine Calls.mono (CV'.out _ HT.out) ?_
          rintro e w10 ⟨rfl, hb⟩
          replace HT := Lib.hid (HT.out.next hb)
          replace M := Lib.hid (M.out.next hb)
          replace L := Lib.hid (L.out.next hb)
          replace HB0 := Lib.hid (HB0.out.next hb)
          replace BB := Lib.hid (Below.andThen BB.out hb)
          clear hb
          go_wp2_with fail
          go_roundw
          case rel => exact ⟨1 + 1, by omega, rfl, HB0.out⟩
          case measure => simp [intOf]
        · subst h1
          subst h2
          have hs1 : (S'.toList == ([] : List UInt8)) = false := by rw [bytes_nil]; exact decide_eq_false hs0
          have cL2 := L.out.cell 2
          have cL3 := L.out.cell 3
          have lL := L.out.lt
          simp only [List.getElem?_cons_zero, List.getElem?_cons_succ] at cL2 cL3
          go_upto_region 6 with (fail)
          refine wp_named fun v5 hq => ?_
          obtain ⟨bE, ebE⟩ : ∃ b, b = wr.heap.size := ⟨_, rfl⟩
          have E := Lib.hid (show Row v5 bE 23 [.string t1', .string t2'] from by rw [hq, ebE]; first | exact Row.new _ _ _ | exact ((Row.new wr 23 [.string ⟨#[]⟩, .string ⟨#[]⟩]).set 0 (.string t1')).set 1 (.string t2'))
          have hb : Below wr.heap.size wr v5 := by rw [hq]; first | exact (Below.refl _ _).alloc (Nat.le_refl _) _ | exact (((Below.refl _ _).alloc (Nat.le_refl _) _).setCell (p := ⟨wr.heap.size, 0, none⟩) (Nat.le_refl _) _).setCell (p := ⟨wr.heap.size, 1, none⟩) (Nat.le_refl _) _
          replace HT := Lib.hid (HT.out.next hb)
          replace M := Lib.hid (M.out.next hb)
          replace L := Lib.hid (L.out.next hb)
          replace HB0 := Lib.hid (HB0.out.next hb)
          replace BB := Lib.hid (Below.andThen BB.out hb)
          rw [← ebE]
          clear hq hb ebE
          clear cL2 cL3 lL
          obtain ⟨cE0, cE1⟩ := E.out.two
          have lE := E.out.lt
          go_wp2_with fail
          clear cE0 cE1 lE
          with_reducible refine Calls.mono (CP'.out _ HT.out) ?_
          rintro e w6 ⟨rfl, hb⟩
          replace HT := Lib.hid (HT.out.next hb)
          replace M := Lib.hid (M.out.next hb)
          replace L := Lib.hid (L.out.next hb)
          replace E := Lib.hid (E.out.next hb)
          replace HB0 := Lib.hid (HB0.out.next hb)
          replace BB := Lib.hid (Below.andThen BB.out hb)
          clear hb
          go_wp2_with fail
          with_reducible refine Calls.mono (CQ'.out _ HT.out) ?_
          rintro e w7 ⟨rfl, hb⟩
          replace HT := Lib.hid (HT.out.next hb)
          replace M := Lib.hid (M.out.next hb)
          replace L := Lib.hid (L.out.next hb)
          replace E := Lib.hid (E.out.next hb)
          replace HB0 := Lib.hid (HB0.out.next hb)
          replace BB := Lib.hid (Below.andThen BB.out hb)
          clear hb
          go_upto_region 8 with (fail)
          refine wp_named fun v7 hq => ?_
          obtain ⟨bTt, ebTt⟩ : ∃ b, b = w7.heap.size := ⟨_, rfl⟩
          have Tt := Lib.hid (show Row v7 bTt 23 [.string t1', .string t2'] from by rw [hq, ebTt]; first | exact Row.new _ _ _ | exact ((Row.new w7 23 [.string ⟨#[]⟩, .string ⟨#[]⟩]).set 0 (.string t1')).set 1 (.string t2'))
          have hb : Below w7.heap.size w7 v7 := by rw [hq]; first | exact (Below.refl _ _).alloc (Nat.le_refl _) _ | exact (((Below.refl _ _).alloc (Nat.le_refl _) _).setCell (p := ⟨w7.heap.size, 0, none⟩) (Nat.le_refl _) _).setCell (p := ⟨w7.heap.size, 1, none⟩) (Nat.le_refl _) _
          replace HT := Lib.hid (HT.out.next hb)
          replace M := Lib.hid (M.out.next hb)
          replace L := Lib.hid (L.out.next hb)
          replace E := Lib.hid (E.out.next hb)
          replace HB0 := Lib.hid (HB0.out.next hb)
          replace BB := Lib.hid (Below.andThen BB.out hb)
          rw [← ebTt]
          clear hq hb ebTt
          obtain ⟨cE0, cE1⟩ := E.out.two
          have lE := E.out.lt
          obtain ⟨cTt0, cTt1⟩ := Tt.out.two
          have lTt := Tt.out.lt
          go_wp2_with fail
          clear cE0 cE1 lE cTt0 cTt1 lTt
          with_reducible refine Calls.mono (CR'.out _) ?_
          rintro e w8 ⟨rfl, hb⟩
          replace HT := Lib.hid (HT.out.next hb)
          replace M := Lib.hid (M.out.next hb)
          replace L := Lib.hid (L.out.next hb)
          replace E := Lib.hid (E.out.next hb)
          replace Tt := Lib.hid (Tt.out.next hb)
          replace HB0 := Lib.hid (HB0.out.next hb)
          replace BB := Lib.hid (Below.andThen BB.out hb)
          clear hb
          obtain ⟨cE0, cE1⟩ := E.out.two
          have lE := E.out.lt
          obtain ⟨cTt0, cTt1⟩ := Tt.out.two
          have lTt := Tt.out.lt
          go_wp2_with fail
          clear cE0 cE1 lE cTt0 cTt1 lTt
          with_reducible refine Calls.mono (CV'.out _ HT.out) ?_
          rintro e w9 ⟨rfl, hb⟩
          replace HT := Lib.hid (HT.out.next hb)
          replace M := Lib.hid (M.out.next hb)
          replace L := Lib.hid (L.out.next hb)
          replace E := Lib.hid (E.out.next hb)
          replace Tt := Lib.hid (Tt.out.next hb)
          replace HB0 := Lib.hid (HB0.out.next hb)
          replace BB := Lib.hid (Below.andThen BB.out hb)
          clear hb
          obtain ⟨cE0, cE1⟩ := E.out.two
          have lE := E.out.lt
          obtain ⟨cTt0, cTt1⟩ := Tt.out.two
          have lTt := Tt.out.lt
          go_wp2_with fail
          clear cE0 cE1 lE cTt0 cTt1 lTt
          with_reducible refine Calls.mono (CV'.out _ HT.out) ?_
          rintro e w10 ⟨rfl, hb⟩
          replace HT := Lib.hid (HT.out.next hb)
          replace M := Lib.hid (M.out.next hb)
          replace L := Lib.hid (L.out.next hb)
          replace HB0 := Lib.hid (HB0.out.next hb)
          replace BB := Lib.hid (Below.andThen BB.out hb)
          clear hb
          go_wp2_with fail
          go_roundw
          case rel => exact ⟨1 + 1, by omega, rfl, HB0.out⟩
          case measure => simp [intOf]
      · go_upto_region 11 with (fail)
        clear HK HK' L HB0 CP CQ CR CV CP' CQ' CV'
        obtain ⟨cM0, cM1⟩ := M.out.two
        have lM := M.out.lt
        go_wp2_with fail
        clear cM0 cM1 lM
        with_reducible refine Calls.mono (CR'.out _) ?_
        rintro e w11 ⟨rfl, hb⟩
        replace HT := Lib.hid (HT.out.next hb)
        replace BB := Lib.hid (Below.andThen BB.out hb)
        clear hb
        go_upto_region 12 with (fail)
        clear CR' M
        have hs1 : (S'.toList == ([] : List UInt8)) = false := by rw [bytes_nil]; exact decide_eq_false hne
        obtain ⟨k, ek, hk⟩ := pick_nat at0 (n := S'.size) (by omega)
        have KP := Lib.hid (fun W => pick_r at0 S'.size W (by omega) ha.1 ha.2)
        rw [ek] at KP
        clear ek
        go_upto_region 14 with (fail)
        go_wp2_with fail
        with_reducible refine Calls.mono (KP.out _) ?_
        rintro e w' ⟨rfl, rfl⟩
        go_upto_region 15 with (fail)
        have m1 : 0 ≤ min (raw.size : Int) 420 := by omega
        have m2 : min (raw.size : Int) 420 ≤ raw.size := by omega
        have hcv := (fun (W : World) (b cap : Nat) (c0 : W.cell? ⟨b, 0, none⟩ = some (.int .u8 ch)) =>
          run_one_byteL (P := Tryz.prog) W 48 9 5 b cap ch (by kernel_rfl) (by kernel_rfl) (by kernel_rfl) (by omega) c0)
        have z1 : (S'.extract 0 k).size = k := by rw [ByteArray.size_extract]; omega
        have z2 : (⟨#[UInt8.ofNat ch.toNat]⟩ : ByteArray).size = 1 := rfl
        have z3 : (S'.extract (k + 1) S'.size).size = S'.size - (k + 1) := by rw [ByteArray.size_extract]; omega
        have c1 : (0 : Int) ≤ k := by omega
        have c2 : (k : Int) ≤ S'.size := by omega
        have c3 : (0 : Int) ≤ (k : Int) + 1 := by omega
        have c4 : (k : Int) + 1 ≤ S'.size := by omega
        have c7 : IntKind.i64.wrap ((k : Int) + 1) = (k : Int) + 1 := by simp [IntKind.wrap, IntKind.bits, IntKind.signed]; omega
        have c10 : ((k : Int) + 1).toNat = k + 1 := by omega
        have c5 : ¬ (9223372036854775807 < k + 1) := by omega
        have c6 : ¬ (9223372036854775807 < k + 1 + (S'.size - (k + 1))) := by omega
        rw [show Op.convert 48 9 (Operand.tmp 86) = convB from rfl]
        (go_region_held3 (fun _ => True) (first | trivial | go_keep) (fail))
        all_goals
          have hU1 : (raw.extract 0 (min (raw.size : Int) 420).toNat).size ≤ 1000 := by rw [ByteArray.size_extract]; omega
          have hU2 : (S'.extract 0 k ++ ⟨#[UInt8.ofNat ch.toNat]⟩ ++ S'.extract (k + 1) S'.size).size ≤ 1000 := by
            rw [ByteArray.size_append, ByteArray.size_append, z1, z2, z3]
            omega
          clear hcv z1 z2 z3 c1 c2 c3 c4 c5 c6 c7 c10 m1 m2
          generalize raw.extract 0 (min (raw.size : Int) 420).toNat = U1 at *
          generalize S'.extract 0 k ++ ⟨#[UInt8.ofNat ch.toNat]⟩ ++ S'.extract (k + 1) S'.size = U2 at *
          generalize hq : World.drew _ = v12
          obtain ⟨bS, ebS⟩ : ∃ b, b = w11.heap.size + 1 := ⟨_, rfl⟩
          have L := Lib.hid (show Row v12 bS 9 [.string U1, .string U2] from by
            rw [← hq, ebS]
            have h := Row.new (w11.alloc (.cells #[.int .u8 ch] 5)) 9 [.string U1, .string U2]
            rw [World.size_alloc] at h
            exact h.drew)
          have hb : Below w11.heap.size w11 v12 := by rw [← hq]; exact (((Below.refl _ _).alloc (Nat.le_refl _) _).alloc (by simp) _).drew
          rw [← ebS]
          clear hq ebS
          replace HT := Lib.hid (HT.out.next hb)
          replace BB := Lib.hid (Below.andThen BB.out hb)
          clear hb
          obtain ⟨t1, t2, ee, hR, hK⟩ := parse_print U1
          obtain ⟨t1', t2', ee', hR', hK'⟩ := parse_print U2
          have CQ := Lib.hid (fun W (T : RW W) => Parse_r U1 W T (by omega))
          have CR := Lib.hid (fun W => rParse_r U1 W hU1)
          have CP := Lib.hid (fun W (T : RW W) => Print_r (t1, t2) W T.tab)
          rw [hR] at CQ CR
          have CQ' := Lib.hid (fun W (T : RW W) => Parse_r U2 W T (by omega))
          have CR' := Lib.hid (fun W => rParse_r U2 W hU2)
          have CP' := Lib.hid (fun W (T : RW W) => Print_r (t1', t2') W T.tab)
          rw [hR'] at CQ' CR'
          have HK := Lib.hid hK
          have HK' := Lib.hid hK'
          clear hR hR' hK hK' hU1 hU2
          go_wp2_with fail
          go_loopw [96] (fun iv wr => ∃ i : Nat, i ≤ 2 ∧ iv = .int .i64 i ∧ Below v12.heap.size v12 wr) (fun iv _ => 2 - (intOf iv).toNat)
          case atStart => exact ⟨0, by omega, rfl, Below.refl _ _⟩
          case round =>
            obtain ⟨i, hi, rfl, hb0⟩ := hrel
            have HB0 := Lib.hid (show Since v12 _ from hb0)
            have hb := hb0
            clear hb0
            replace HT := Lib.hid (HT.out.next hb)
            replace L := Lib.hid (L.out.next hb)
            replace BB := Lib.hid (Below.andThen BB.out hb)
            clear hb
            rename World => wr
            have hi3 : i = 0 ∨ i = 1 ∨ i = 2 := by omega
            rcases hi3 with rfl | rfl | rfl
            · have cL := L.out.cell 0
              have lL := L.out.lt
              simp only [List.getElem?_cons_zero, List.getElem?_cons_succ] at cL
              rcases HK.out with rfl | ⟨rfl, hp1⟩
              · clear HK HK'
                go_wp2_with fail
                clear cL lL
                with_reducible refine Calls.mono (CQ.out _ HT.out) ?_
                rintro e w13 ⟨rfl, hb⟩
                replace HT := Lib.hid (HT.out.next hb)
                replace L := Lib.hid (L.out.next hb)
                replace HB0 := Lib.hid (HB0.out.next hb)
                replace BB := Lib.hid (Below.andThen BB.out hb)
                clear hb
                go_wp2_with fail
                refine calls_named fun v13 hq => ?_
                obtain ⟨bA, ebA⟩ : ∃ b, b = w13.heap.size := ⟨_, rfl⟩
                have A := Lib.hid (show Row v13 bA 23 [.string t1, .string t2] from by rw [hq, ebA]; first | exact Row.new _ _ _ | exact ((Row.new w13 23 [.string ⟨#[]⟩, .string ⟨#[]⟩]).set 0 (.string t1)).set 1 (.string t2))
                have hb : Below w13.heap.size w13 v13 := by rw [hq]; first | exact (Below.refl _ _).alloc (Nat.le_refl _) _ | exact (((Below.refl _ _).alloc (Nat.le_refl _) _).setCell (p := ⟨w13.heap.size, 0, none⟩) (Nat.le_refl _) _).setCell (p := ⟨w13.heap.size, 1, none⟩) (Nat.le_refl _) _
                replace HT := Lib.hid (HT.out.next hb)
                replace L := Lib.hid (L.out.next hb)
                replace HB0 := Lib.hid (HB0.out.next hb)
                replace BB := Lib.hid (Below.andThen BB.out hb)
                rw [← ebA]
                clear hq hb ebA
                with_reducible refine Calls.mono (CR.out _) ?_
                rintro e w14 ⟨rfl, hb⟩
                replace HT := Lib.hid (HT.out.next hb)
                replace L := Lib.hid (L.out.next hb)
                replace HB0 := Lib.hid (HB0.out.next hb)
                replace A := Lib.hid (A.out.next hb)
                replace BB := Lib.hid (Below.andThen BB.out hb)
                clear hb
                go_upto_region 20 with (fail)
                refine wp_named fun v14 hq => ?_
                obtain ⟨bB, ebB⟩ : ∃ b, b = w14.heap.size := ⟨_, rfl⟩
                have B := Lib.hid (show Row v14 bB 23 [.string t1, .string t2] from by rw [hq, ebB]; first | exact Row.new _ _ _ | exact ((Row.new w14 23 [.string ⟨#[]⟩, .string ⟨#[]⟩]).set 0 (.string t1)).set 1 (.string t2))
                have hb : Below w14.heap.size w14 v14 := by rw [hq]; first | exact (Below.refl _ _).alloc (Nat.le_refl _) _ | exact (((Below.refl _ _).alloc (Nat.le_refl _) _).setCell (p := ⟨w14.heap.size, 0, none⟩) (Nat.le_refl _) _).setCell (p := ⟨w14.heap.size, 1, none⟩) (Nat.le_refl _) _
                replace HT := Lib.hid (HT.out.next hb)
                replace L := Lib.hid (L.out.next hb)
                replace HB0 := Lib.hid (HB0.out.next hb)
                replace A := Lib.hid (A.out.next hb)
                replace BB := Lib.hid (Below.andThen BB.out hb)
                rw [← ebB]
                clear hq hb ebB
                obtain ⟨cA0, cA1⟩ := A.out.two
                have lA := A.out.lt
                obtain ⟨cB0, cB1⟩ := B.out.two
                have lB := B.out.lt
                go_wp2_with fail
                go_roundw
                case rel => exact ⟨0 + 1, by omega, rfl, HB0.out⟩
                case measure => simp [intOf]
              · rw [hp1] at CP
                clear HK HK' hp1
                go_wp2_with fail
                clear cL lL
                with_reducible refine Calls.mono (CQ.out _ HT.out) ?_
                rintro e w13 ⟨rfl, hb⟩
                replace HT := Lib.hid (HT.out.next hb)
                replace L := Lib.hid (L.out.next hb)
                replace HB0 := Lib.hid (HB0.out.next hb)
                replace BB := Lib.hid (Below.andThen BB.out hb)
                clear hb
                go_wp2_with fail
                refine calls_named fun v13 hq => ?_
                obtain ⟨bA, ebA⟩ : ∃ b, b = w13.heap.size := ⟨_, rfl⟩
                have A := Lib.hid (show Row v13 bA 23 [.string t1, .string t2] from by rw [hq, ebA]; first | exact Row.new _ _ _ | exact ((Row.new w13 23 [.string ⟨#[]⟩, .string ⟨#[]⟩]).set 0 (.string t1)).set 1 (.string t2))
                have hb : Below w13.heap.size w13 v13 := by rw [hq]; first | exact (Below.refl _ _).alloc (Nat.le_refl _) _ | exact (((Below.refl _ _).alloc (Nat.le_refl _) _).setCell (p := ⟨w13.heap.size, 0, none⟩) (Nat.le_refl _) _).setCell (p := ⟨w13.heap.size, 1, none⟩) (Nat.le_refl _) _
                replace HT := Lib.hid (HT.out.next hb)
                replace L := Lib.hid (L.out.next hb)
                replace HB0 := Lib.hid (HB0.out.next hb)
                replace BB := Lib.hid (Below.andThen BB.out hb)
                rw [← ebA]
                clear hq hb ebA
                with_reducible refine Calls.mono (CR.out _) ?_
                rintro e w14 ⟨rfl, hb⟩
                replace HT := Lib.hid (HT.out.next hb)
                replace L := Lib.hid (L.out.next hb)
                replace HB0 := Lib.hid (HB0.out.next hb)
                replace A := Lib.hid (A.out.next hb)
                replace BB := Lib.hid (Below.andThen BB.out hb)
                clear hb
                go_upto_region 20 with (fail)
                refine wp_named fun v14 hq => ?_
                obtain ⟨bB, ebB⟩ : ∃ b, b = w14.heap.size := ⟨_, rfl⟩
                have B := Lib.hid (show Row v14 bB 23 [.string t1, .string t2] from by rw [hq, ebB]; first | exact Row.new _ _ _ | exact ((Row.new w14 23 [.string ⟨#[]⟩, .string ⟨#[]⟩]).set 0 (.string t1)).set 1 (.string t2))
                have hb : Below w14.heap.size w14 v14 := by rw [hq]; first | exact (Below.refl _ _).alloc (Nat.le_refl _) _ | exact (((Below.refl _ _).alloc (Nat.le_refl _) _).setCell (p := ⟨w14.heap.size, 0, none⟩) (Nat.le_refl _) _).setCell (p := ⟨w14.heap.size, 1, none⟩) (Nat.le_refl _) _
                replace HT := Lib.hid (HT.out.next hb)
                replace L := Lib.hid (L.out.next hb)
                replace HB0 := Lib.hid (HB0.out.next hb)
                replace A := Lib.hid (A.out.next hb)
                replace BB := Lib.hid (Below.andThen BB.out hb)
                rw [← ebB]
                clear hq hb ebB
                obtain ⟨cA0, cA1⟩ := A.out.two
                have lA := A.out.lt
                obtain ⟨cB0, cB1⟩ := B.out.two
                have lB := B.out.lt
                go_wp2_with fail
                clear cA0 cA1 lA cB0 cB1 lB
                with_reducible refine Calls.mono (CP.out _ HT.out) ?_
                rintro e w15 ⟨rfl, hb⟩
                replace HT := Lib.hid (HT.out.next hb)
                replace L := Lib.hid (L.out.next hb)
                replace HB0 := Lib.hid (HB0.out.next hb)
                replace BB := Lib.hid (Below.andThen BB.out hb)
                clear hb
                go_wp2_with fail
                go_roundw
                case rel => exact ⟨0 + 1, by omega, rfl, HB0.out⟩
                case measure => simp [intOf]
            · have cL := L.out.cell 1
              have lL := L.out.lt
              simp only [List.getElem?_cons_zero, List.getElem?_cons_succ] at cL
              rcases HK'.out with rfl | ⟨rfl, hp1⟩
              · clear HK HK'
                go_wp2_with fail
                clear cL lL
                with_reducible refine Calls.mono (CQ'.out _ HT.out) ?_
                rintro e w13 ⟨rfl, hb⟩
                replace HT := Lib.hid (HT.out.next hb)
                replace L := Lib.hid (L.out.next hb)
                replace HB0 := Lib.hid (HB0.out.next hb)
                replace BB := Lib.hid (Below.andThen BB.out hb)
                clear hb
                go_wp2_with fail
                refine calls_named fun v13 hq => ?_
                obtain ⟨bA, ebA⟩ : ∃ b, b = w13.heap.size := ⟨_, rfl⟩
                have A := Lib.hid (show Row v13 bA 23 [.string t1', .string t2'] from by rw [hq, ebA]; first | exact Row.new _ _ _ | exact ((Row.new w13 23 [.string ⟨#[]⟩, .string ⟨#[]⟩]).set 0 (.string t1')).set 1 (.string t2'))
                have hb : Below w13.heap.size w13 v13 := by rw [hq]; first | exact (Below.refl _ _).alloc (Nat.le_refl _) _ | exact (((Below.refl _ _).alloc (Nat.le_refl _) _).setCell (p := ⟨w13.heap.size, 0, none⟩) (Nat.le_refl _) _).setCell (p := ⟨w13.heap.size, 1, none⟩) (Nat.le_refl _) _
                replace HT := Lib.hid (HT.out.next hb)
                replace L := Lib.hid (L.out.next hb)
                replace HB0 := Lib.hid (HB0.out.next hb)
                replace BB := Lib.hid (Below.andThen BB.out hb)
                rw [← ebA]
                clear hq hb ebA
                with_reducible refine Calls.mono (CR'.out _) ?_
                rintro e w14 ⟨rfl, hb⟩
                replace HT := Lib.hid (HT.out.next hb)
                replace L := Lib.hid (L.out.next hb)
                replace HB0 := Lib.hid (HB0.out.next hb)
                replace A := Lib.hid (A.out.next hb)
                replace BB := Lib.hid (Below.andThen BB.out hb)
                clear hb
                go_upto_region 20 with (fail)
                refine wp_named fun v14 hq => ?_
                obtain ⟨bB, ebB⟩ : ∃ b, b = w14.heap.size := ⟨_, rfl⟩
                have B := Lib.hid (show Row v14 bB 23 [.string t1', .string t2'] from by rw [hq, ebB]; first | exact Row.new _ _ _ | exact ((Row.new w14 23 [.string ⟨#[]⟩, .string ⟨#[]⟩]).set 0 (.string t1')).set 1 (.string t2'))
                have hb : Below w14.heap.size w14 v14 := by rw [hq]; first | exact (Below.refl _ _).alloc (Nat.le_refl _) _ | exact (((Below.refl _ _).alloc (Nat.le_refl _) _).setCell (p := ⟨w14.heap.size, 0, none⟩) (Nat.le_refl _) _).setCell (p := ⟨w14.heap.size, 1, none⟩) (Nat.le_refl _) _
                replace HT := Lib.hid (HT.out.next hb)
                replace L := Lib.hid (L.out.next hb)
                replace HB0 := Lib.hid (HB0.out.next hb)
                replace A := Lib.hid (A.out.next hb)
                replace BB := Lib.hid (Below.andThen BB.out hb)
                rw [← ebB]
                clear hq hb ebB
                obtain ⟨cA0, cA1⟩ := A.out.two
                have lA := A.out.lt
                obtain ⟨cB0, cB1⟩ := B.out.two
                have lB := B.out.lt
                go_wp2_with fail
                go_roundw
                case rel => exact ⟨1 + 1, by omega, rfl, HB0.out⟩
                case measure => simp [intOf]
              · rw [hp1] at CP'
                clear HK HK' hp1
                go_wp2_with fail
                clear cL lL
                with_reducible refine Calls.mono (CQ'.out _ HT.out) ?_
                rintro e w13 ⟨rfl, hb⟩
                replace HT := Lib.hid (HT.out.next hb)
                replace L := Lib.hid (L.out.next hb)
                replace HB0 := Lib.hid (HB0.out.next hb)
                replace BB := Lib.hid (Below.andThen BB.out hb)
                clear hb
                go_wp2_with fail
                refine calls_named fun v13 hq => ?_
                obtain ⟨bA, ebA⟩ : ∃ b, b = w13.heap.size := ⟨_, rfl⟩
                have A := Lib.hid (show Row v13 bA 23 [.string t1', .string t2'] from by rw [hq, ebA]; first | exact Row.new _ _ _ | exact ((Row.new w13 23 [.string ⟨#[]⟩, .string ⟨#[]⟩]).set 0 (.string t1')).set 1 (.string t2'))
                have hb : Below w13.heap.size w13 v13 := by rw [hq]; first | exact (Below.refl _ _).alloc (Nat.le_refl _) _ | exact (((Below.refl _ _).alloc (Nat.le_refl _) _).setCell (p := ⟨w13.heap.size, 0, none⟩) (Nat.le_refl _) _).setCell (p := ⟨w13.heap.size, 1, none⟩) (Nat.le_refl _) _
                replace HT := Lib.hid (HT.out.next hb)
                replace L := Lib.hid (L.out.next hb)
                replace HB0 := Lib.hid (HB0.out.next hb)
                replace BB := Lib.hid (Below.andThen BB.out hb)
                rw [← ebA]
                clear hq hb ebA
                with_reducible refine Calls.mono (CR'.out _) ?_
                rintro e w14 ⟨rfl, hb⟩
                replace HT := Lib.hid (HT.out.next hb)
                replace L := Lib.hid (L.out.next hb)
                replace HB0 := Lib.hid (HB0.out.next hb)
                replace A := Lib.hid (A.out.next hb)
                replace BB := Lib.hid (Below.andThen BB.out hb)
                clear hb
                go_upto_region 20 with (fail)
                refine wp_named fun v14 hq => ?_
                obtain ⟨bB, ebB⟩ : ∃ b, b = w14.heap.size := ⟨_, rfl⟩
                have B := Lib.hid (show Row v14 bB 23 [.string t1', .string t2'] from by rw [hq, ebB]; first | exact Row.new _ _ _ | exact ((Row.new w14 23 [.string ⟨#[]⟩, .string ⟨#[]⟩]).set 0 (.string t1')).set 1 (.string t2'))
                have hb : Below w14.heap.size w14 v14 := by rw [hq]; first | exact (Below.refl _ _).alloc (Nat.le_refl _) _ | exact (((Below.refl _ _).alloc (Nat.le_refl _) _).setCell (p := ⟨w14.heap.size, 0, none⟩) (Nat.le_refl _) _).setCell (p := ⟨w14.heap.size, 1, none⟩) (Nat.le_refl _) _
                replace HT := Lib.hid (HT.out.next hb)
                replace L := Lib.hid (L.out.next hb)
                replace HB0 := Lib.hid (HB0.out.next hb)
                replace A := Lib.hid (A.out.next hb)
                replace BB := Lib.hid (Below.andThen BB.out hb)
                rw [← ebB]
                clear hq hb ebB
                obtain ⟨cA0, cA1⟩ := A.out.two
                have lA := A.out.lt
                obtain ⟨cB0, cB1⟩ := B.out.two
                have lB := B.out.lt
                go_wp2_with fail
                clear cA0 cA1 lA cB0 cB1 lB
                with_reducible refine Calls.mono (CP'.out _ HT.out) ?_
                rintro e w15 ⟨rfl, hb⟩
                replace HT := Lib.hid (HT.out.next hb)
                replace L := Lib.hid (L.out.next hb)
                replace HB0 := Lib.hid (HB0.out.next hb)
                replace BB := Lib.hid (Below.andThen BB.out hb)
                clear hb
                go_wp2_with fail
                go_roundw
                case rel => exact ⟨1 + 1, by omega, rfl, HB0.out⟩
                case measure => simp [intOf]
            · go_wp2_with fail
              go_ret
              exact ⟨rfl, BB.out⟩
theorem bd_u8 {n : Int} (h : (Lit.int .u8 n).wf = true) : 0 ≤ n ∧ n ≤ 255 := by
  simpa [Lit.wf, IntKind.min, IntKind.max, IntKind.signed, IntKind.bits] using h
namespace rationalTextMatchesReference
theorem flat0 : leafsOf Tryz.prog 5 23 = some [some none, some none] := by kernel_rfl
theorem flat1 : leafsOf Tryz.prog 5 24 = some [some (some .i64), some (some .i64), some (some .i64), some (some .i64)] := by kernel_rfl
set_option maxRecDepth 100000 in
theorem contract (H : Type) (enc : TypeId × Value → H) (W : World) (base : Nat) (args : Array Value) (ds gs : List (DataW H)) (before : List MemPlace)
    (hval : ∀ (j : Nat) t v, Tryz.f4.params[j]? = some t → args[j]? = some v → Value.okWide Tryz.prog W .any base t v)
    (hW : DataW.Whole enc Tryz.prog Tryz.f4.params.toList Rows.rationalTextMatchesReferenceSpec.vars false W args.toList ds gs before) (hL : laidMetH Tryz.prog Rows.rationalTextMatchesReferenceRow.laid W) (hsh : W.ShapedOpen Tryz.prog) :
    Calls Tryz.prog 4 args W fun e W' => ∃ v, e = .returned v ∧ Rows.rationalTextMatchesReferenceSpec.post enc Tryz.prog Tryz.f4 false true false false W args v W' := by
  have hW' := hW
  obtain ⟨p, q, hA0, hV, rfl, hfz, hnd⟩ := hW
  have hA : DataW.TrodAll enc Tryz.prog W 0 (fun _ => true) true Tryz.f4.params.toList args.toList ds p := hA0
  rw [Tryz.params4] at hA hval
  obtain ⟨v0, vs0, d0, ds0, p0, q0, hargs, rfl, rfl, h0, r0⟩ := trodAll_cons hA
  obtain ⟨v1, vs1, d1, ds1, p1, q1, rfl, rfl, rfl, h1, r1⟩ := trodAll_cons r0
  obtain ⟨v2, vs2, d2, ds2, p2, q2, rfl, rfl, rfl, h2, r2⟩ := trodAll_cons r1
  obtain ⟨v3, vs3, d3, ds3, p3, q3, rfl, rfl, rfl, h3, r3⟩ := trodAll_cons r2
  obtain ⟨v4, vs4, d4, ds4, p4, q4, rfl, rfl, rfl, h4, r4⟩ := trodAll_cons r3
  obtain ⟨rfl, rfl, rfl⟩ := trodAll_nil r4
  obtain rfl : args = #[v0, v1, v2, v3, v4] := by cases args; simp_all
  obtain ⟨cs0, rfl, c0x0, rs0x0, rfl, ⟨a0, rfl, k0⟩, c0x1, rs0x1, rfl, ⟨a1, rfl, k1⟩, rfl⟩ := open_agg 5 flat0 (by kernel_rfl) (hval 0 _ _ rfl rfl) h0
  obtain ⟨cs1, rfl, c1x0, rs1x0, rfl, ⟨a2, rfl, k2⟩, c1x1, rs1x1, rfl, ⟨a3, rfl, k3⟩, c1x2, rs1x2, rfl, ⟨a4, rfl, k4⟩, c1x3, rs1x3, rfl, ⟨a5, rfl, k5⟩, rfl⟩ := open_agg 5 flat1 (by kernel_rfl) (hval 1 _ _ rfl rfl) h1
  obtain ⟨a6, rfl, rfl, rfl, k6⟩ := open_int Tryz.underlying3 (hval 2 _ _ rfl rfl) h2
  obtain ⟨a7, rfl, rfl, rfl, k7⟩ := open_int Tryz.underlying5 (hval 3 _ _ rfl rfl) h3
  obtain ⟨a8, rfl, rfl, rfl, k8⟩ := Go.ChangeMaps.open_string Tryz.underlying9 (hval 4 _ _ rfl rfl) h4
  refine (rationalText_law a0 a1 a2 a3 a4 a5 a6 a7 a8 W (rwT hL hsh) k0 k1 (bd_i64 k2) (bd_i64 k3) (bd_i64 k4) (bd_i64 k5) (bd_i64 k6) (bd_u8 k7) k8).mono fun e W' ⟨he, hb⟩ => ?_
  subst he
  obtain ⟨rfl, _⟩ := trodVars_none hV
  exact ⟨_, rfl, law_post laidOut (by kernel_rfl) rfl (by kernel_rfl) Tryz.underlying4 hW' rfl hb⟩

noncomputable def laidWorld (os : Os) : World := World.laidAll Tryz.prog os Rows.rationalTextMatchesReferenceRow.laid
def args0 : Array Value := #[.agg #[.string ⟨#[]⟩, .string ⟨#[]⟩], .agg #[.int .i64 0, .int .i64 0, .int .i64 0, .int .i64 0], .int .i64 0, .int .u8 0, .string ⟨#[]⟩]
theorem laid_met (os : Os) : laidMet Tryz.prog Rows.rationalTextMatchesReferenceRow.laid ((laidWorld os).forCall (fun _ _ => 0) ⟨#[], args0, []⟩).memory :=
  laidMet_laidAll _ (by kernel_rfl) (by kernel_rfl)
theorem reads (os : Os) {H : Type} (enc : TypeId × Value → H) : ∃ places, DataW.whole enc Tryz.prog ((laidWorld os).forCall (fun _ _ => 0) ⟨#[], args0, []⟩).memory Tryz.f4.params.toList Rows.rationalTextMatchesReferenceSpec.vars false args0.toList 8 = some ([.agg [.lit (.string []), .lit (.string [])], .agg [.lit (.int .i64 0), .lit (.int .i64 0), .lit (.int .i64 0), .lit (.int .i64 0)], .lit (.int .i64 0), .lit (.int .u8 0), .lit (.string [])], [], places) :=
  ⟨[], by kernel_rfl⟩

set_option maxRecDepth 100000 in
theorem lifted (os : Os) (started : os.Started) (H : Type) (enc : TypeId × Value → H) (F : Stop.Interp) :
    ReturnsInHanded {} Tryz.checked os 4 .any ((OpenSpec.ofChange Rows.rationalTextMatchesReferenceSpec).preRow enc Tryz.prog Tryz.f4 Rows.rationalTextMatchesReferenceRow.domain false Rows.rationalTextMatchesReferenceRow.laid) (((OpenSpec.ofChange Rows.rationalTextMatchesReferenceSpec).at F).post enc Tryz.prog Tryz.f4 false true false false) := by
  obtain ⟨places, hx⟩ := reads os enc
  refine returnsInHanded_of_row (C := Tryz.checked) (s := OpenSpec.ofChange Rows.rationalTextMatchesReferenceSpec) own started (by kernel_rfl) Tryz.func4
    (witness_row_at (enc := enc) (C := Tryz.checked) false (laidWorld os) args0 (World.laidAll_os _ _ _) (by kernel_rfl) (by kernel_rfl) (by kernel_rfl)
      (OpenSpec.preRow_of_cond 8 hx (by kernel_rfl) (fun k hk => by cases hk) (by kernel_rfl) (laid_met os))) ?_
  intro W base args ds gs before hval hW _ _ _ hL hsh _
  exact contract H enc W base args ds gs before hval hW hL hsh

theorem said : Rows.RationalTextMatchesReferenceSaid :=
  OpenClaim.holds_of_cond 4 Tryz.f4 rfl rfl rfl rfl rfl rfl rfl ⟨rfl, rfl, rfl, rfl, rfl⟩ rfl rfl rfl rfl rfl (by kernel_rfl) Tryz.func4 (by kernel_rfl)
    (of_decide_eq_true (by kernel_rfl)) (by unfold Func.isWrapper; first | (rw [if_pos (by decide +kernel)]; kernel_rfl) | (rw [if_neg (by decide +kernel)]; exact ⟨rfl, rfl⟩))
    (fun os started H enc _ F => by rw [OpenClaim.pre_eq_preRow]; exact lifted os started H enc F)

theorem plain (f : FuncId) (fn : Func) (hf : Tryz.pinned.checked.prog.funcNamed "newswire/newswirelaw04.RationalTextMatchesReference" = some f) (hfn : Tryz.pinned.checked.prog.funcs[f]? = some fn) :
    false = Tryz.pinned.checked.prog.looks [] ∧ ∀ (j : Nat) t, fn.params[j]? = some t → Tryz.pinned.checked.prog.wantsStandIn t = false := by
  obtain rfl : f = 4 := Option.some.inj ((show Tryz.prog.funcNamed "newswire/newswirelaw04.RationalTextMatchesReference" = some 4 by kernel_rfl).symm.trans hf) |>.symm
  obtain rfl : fn = Tryz.f4 := (Option.some.inj (Tryz.func4.symm.trans hfn)).symm
  refine ⟨by kernel_rfl, fun j t ht => ?_⟩
  have all : (Tryz.f4.params.toList.all fun t => Tryz.prog.wantsStandIn t == false) = true := by kernel_rfl
  have := List.all_eq_true.1 all t (by rw [← Array.mem_def]; exact Array.mem_of_getElem? ht)
  exact (show Tryz.prog.wantsStandIn t = false by simpa using this)

/-- The statement. -/
theorem card : Rows.RationalTextMatchesReferenceCardSaid :=
  Claim7.holds_tied_plain_at .later [] _ _ _ _ said (fun _ h => by cases h) (by kernel_rfl) (fun _ h => by cases h) rationalTextMatchesReference_row_tie rfl ⟨rfl, rfl⟩ (by kernel_rfl) rfl plain (by kernel_rfl)
end rationalTextMatchesReference
end Go.Proofs.YtlehjmanlccncaaGreatDoor
