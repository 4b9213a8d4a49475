/- The fixed examples of the laws on fractions. -/
/- sane: the fixed examples hold. -/
import Derived.Test.YtlehjmanlccncaaGreatDoorRatGB
import Derived.Test.YtlehjmanlccncaaGreatDoorRatGD
import Derived.Test.YtlehjmanlccncaaGreatDoorRatGE
import Derived.Test.YtlehjmanlccncaaGreatDoorRatGF
import Derived.Test.YtlehjmanlccncaaGreatDoorFloatG
set_option linter.unusedVariables false
set_option linter.unusedSimpArgs false
namespace Go.Proofs.YtlehjmanlccncaaGreatDoor
open Go.RowKit

theorem res_some {a : Option (Int × Int)} {x y : Int} {s t : ByteArray} (ha : a = some (x, y)) (hs : In.num s = some x) (ht : In.num t = some y) : resV a = .tuple #[ratV (s, t), .int .i64 0] := by
  rw [ha, (In.num_some hs).1, (In.num_some ht).1]
  rfl
theorem res_none {a : Option (Int × Int)} (ha : a = none) : resV a = .tuple #[ratV (⟨#[]⟩, ⟨#[]⟩), .int .i64 40] := by rw [ha]; rfl
theorem prS_lit {s t u : ByteArray} {x y : Int} (hs : In.num s = some x) (ht : In.num t = some y) (h1 : y ≠ 1) (hu : s ++ ⟨#[47]⟩ ++ t = u) : Ra.prS (some (x, y)) = u := by
  unfold Ra.prS
  dsimp only
  rw [if_neg h1, ← (In.num_some hs).1, ← (In.num_some ht).1, hu]
theorem parse_9 : Ra.parseS ⟨#[45, 51, 47, 50]⟩ = some (-3, 2) := by
  have e1 : Ra.val (Ra.partsS ⟨#[45, 51, 47, 50]⟩) = some (-3, 2) := by kernel_rfl
  unfold Ra.parseS
  rw [e1, prS_lit (x := -3) (y := 2) (s := ⟨#[45, 51]⟩) (t := ⟨#[50]⟩) (u := ⟨#[45, 51, 47, 50]⟩) (by kernel_rfl) (by kernel_rfl) (by decide) (by kernel_rfl)]
  exact if_pos ⟨by decide, rfl⟩
theorem parse_10 : Ra.parseS ⟨#[54, 47, 52]⟩ = none := by
  have e1 : Ra.val (Ra.partsS ⟨#[54, 47, 52]⟩) = none := by kernel_rfl
  exact Ra.parse_miss (.inr (by rw [e1]; intro h; have := congrArg ByteArray.size h; exact absurd this (by decide)))
section
variable (w : World) (T : RW w)
include T
theorem rex_1 : Calls Tryz.prog 31 #[.int .i64 6, .int .i64 (-4)] w fun e w' => e = .returned (.tuple #[ratV (⟨#[45, 51]⟩, ⟨#[50]⟩), .int .i64 0]) ∧ Below w.heap.size w w' := by
  have h := Of_r 6 (-4) w (by decide) (by decide) T.tab
  rwa [res_some (x := -3) (y := 2) (a := Ra.redO True 6 (-4)) (by kernel_rfl) (by kernel_rfl) (by kernel_rfl)] at h
theorem rex_2 : Calls Tryz.prog 31 #[.int .i64 0, .int .i64 (-5)] w fun e w' => e = .returned (.tuple #[ratV (⟨#[48]⟩, ⟨#[49]⟩), .int .i64 0]) ∧ Below w.heap.size w w' := by
  have h := Of_r 0 (-5) w (by decide) (by decide) T.tab
  rwa [res_some (x := 0) (y := 1) (a := Ra.redO True 0 (-5)) (by kernel_rfl) (by kernel_rfl) (by kernel_rfl)] at h
theorem rex_3 : Calls Tryz.prog 31 #[.int .i64 1, .int .i64 0] w fun e w' => e = .returned (.tuple #[ratV (⟨#[]⟩, ⟨#[]⟩), .int .i64 40]) ∧ Below w.heap.size w w' := by
  have h := Of_r 1 0 w (by decide) (by decide) T.tab
  rwa [res_none (a := Ra.redO True 1 0) (by kernel_rfl)] at h
theorem rex_4 : Calls Tryz.prog 38 #[ratV (⟨#[49]⟩, ⟨#[50]⟩), ratV (⟨#[49]⟩, ⟨#[51]⟩)] w fun e w' => e = .returned (.tuple #[ratV (⟨#[53]⟩, ⟨#[54]⟩), .int .i64 0]) ∧ Below w.heap.size w w' := by
  have h := Add_r (⟨#[49]⟩, ⟨#[50]⟩) (⟨#[49]⟩, ⟨#[51]⟩) w T.tab
  rwa [res_some (x := 5) (y := 6) (a := Ra.addO (Ra.val (⟨#[49]⟩, ⟨#[50]⟩)) (Ra.val (⟨#[49]⟩, ⟨#[51]⟩))) (by kernel_rfl) (by kernel_rfl) (by kernel_rfl)] at h
theorem rex_5 : Calls Tryz.prog 45 #[ratV (⟨#[49]⟩, ⟨#[50]⟩), ratV (⟨#[45, 49]⟩, ⟨#[52]⟩)] w fun e w' => e = .returned (.tuple #[ratV (⟨#[45, 50]⟩, ⟨#[49]⟩), .int .i64 0]) ∧ Below w.heap.size w w' := by
  have h := Div_r (⟨#[49]⟩, ⟨#[50]⟩) (⟨#[45, 49]⟩, ⟨#[52]⟩) w T.tab
  rwa [res_some (x := -2) (y := 1) (a := Ra.divO (Ra.val (⟨#[49]⟩, ⟨#[50]⟩)) (Ra.val (⟨#[45, 49]⟩, ⟨#[52]⟩))) (by kernel_rfl) (by kernel_rfl) (by kernel_rfl)] at h
theorem rex_6 : Calls Tryz.prog 45 #[ratV (⟨#[49]⟩, ⟨#[49]⟩), ratV (⟨#[48]⟩, ⟨#[49]⟩)] w fun e w' => e = .returned (.tuple #[ratV (⟨#[]⟩, ⟨#[]⟩), .int .i64 40]) ∧ Below w.heap.size w w' := by
  have h := Div_r (⟨#[49]⟩, ⟨#[49]⟩) (⟨#[48]⟩, ⟨#[49]⟩) w T.tab
  rwa [res_none (a := Ra.divO (Ra.val (⟨#[49]⟩, ⟨#[49]⟩)) (Ra.val (⟨#[48]⟩, ⟨#[49]⟩))) (by kernel_rfl)] at h
theorem rex_7 : Calls Tryz.prog 23 #[ratV (⟨#[45, 49]⟩, ⟨#[51]⟩), .int .i64 2] w fun e w' => e = .returned (.tuple #[ratV (⟨#[45, 49, 55]⟩, ⟨#[53, 48]⟩), .int .i64 0]) ∧ Below w.heap.size w w' := by
  have h := Down_r (⟨#[45, 49]⟩, ⟨#[51]⟩) 2 w T.tab
  rwa [res_some (x := -17) (y := 50) (a := Ra.roundO false (Ra.val (⟨#[45, 49]⟩, ⟨#[51]⟩)) 2) (by kernel_rfl) (by kernel_rfl) (by kernel_rfl)] at h
theorem rex_8 : Calls Tryz.prog 25 #[ratV (⟨#[49]⟩, ⟨#[51]⟩), .int .i64 2] w fun e w' => e = .returned (.tuple #[ratV (⟨#[49, 55]⟩, ⟨#[53, 48]⟩), .int .i64 0]) ∧ Below w.heap.size w w' := by
  have h := Up_r (⟨#[49]⟩, ⟨#[51]⟩) 2 w T.tab
  rwa [res_some (x := 17) (y := 50) (a := Ra.roundO true (Ra.val (⟨#[49]⟩, ⟨#[51]⟩)) 2) (by kernel_rfl) (by kernel_rfl) (by kernel_rfl)] at h
theorem rex_9 : Calls Tryz.prog 34 #[.string ⟨#[45, 51, 47, 50]⟩] w fun e w' => e = .returned (.tuple #[ratV (⟨#[45, 51]⟩, ⟨#[50]⟩), .int .i64 0]) ∧ Below w.heap.size w w' := by
  have h := Parse_r ⟨#[45, 51, 47, 50]⟩ w T (by decide)
  rwa [res_some parse_9 (by kernel_rfl) (by kernel_rfl)] at h
theorem rex_10 : Calls Tryz.prog 34 #[.string ⟨#[54, 47, 52]⟩] w fun e w' => e = .returned (.tuple #[ratV (⟨#[]⟩, ⟨#[]⟩), .int .i64 40]) ∧ Below w.heap.size w w' := by
  have h := Parse_r ⟨#[54, 47, 52]⟩ w T (by decide)
  rwa [res_none parse_10] at h
theorem rex_11 : Calls Tryz.prog 33 #[ratV (⟨#[45, 51]⟩, ⟨#[50]⟩)] w fun e w' => e = .returned (.string ⟨#[45, 51, 47, 50]⟩) ∧ Below w.heap.size w w' := by
  have h := Print_r (⟨#[45, 51]⟩, ⟨#[50]⟩) w T.tab
  rwa [show Ra.val (⟨#[45, 51]⟩, ⟨#[50]⟩) = some (-3, 2) by kernel_rfl, prS_lit (x := -3) (y := 2) (s := ⟨#[45, 51]⟩) (t := ⟨#[50]⟩) (u := ⟨#[45, 51, 47, 50]⟩) (by kernel_rfl) (by kernel_rfl) (by decide) (by kernel_rfl)] at h
theorem rex_12 : Calls Tryz.prog 20 #[ratV (⟨#[49]⟩, ⟨#[51]⟩), ratV (⟨#[51, 51, 51, 51, 51]⟩, ⟨#[49, 48, 48, 48, 48, 48]⟩)] w fun e w' => e = .returned (.int .i64 1) ∧ Below w.heap.size w w' := by
  have h := Compare_r (⟨#[49]⟩, ⟨#[51]⟩) (⟨#[51, 51, 51, 51, 51]⟩, ⟨#[49, 48, 48, 48, 48, 48]⟩) w T.tab
  rwa [show Ra.cmpO (Ra.val (⟨#[49]⟩, ⟨#[51]⟩)) (Ra.val (⟨#[51, 51, 51, 51, 51]⟩, ⟨#[49, 48, 48, 48, 48, 48]⟩)) = 1 by kernel_rfl] at h
theorem rex_13 : Calls Tryz.prog 29 #[ratV (⟨#[45, 51]⟩, ⟨#[50]⟩)] w fun e w' => e = .returned (.bool true) ∧ Below w.heap.size w w' := by
  have h := Valid_r (⟨#[45, 51]⟩, ⟨#[50]⟩) w T.tab
  rwa [show (Ra.val (⟨#[45, 51]⟩, ⟨#[50]⟩)).isSome = true by kernel_rfl] at h
theorem rex_14 : Calls Tryz.prog 29 #[ratV (⟨#[]⟩, ⟨#[]⟩)] w fun e w' => e = .returned (.bool false) ∧ Below w.heap.size w w' := by
  have h := Valid_r (⟨#[]⟩, ⟨#[]⟩) w T.tab
  rwa [show (Ra.val (⟨#[]⟩, ⟨#[]⟩)).isSome = false by kernel_rfl] at h
end
end Go.Proofs.YtlehjmanlccncaaGreatDoor
set_option linter.unusedVariables false
set_option linter.unusedSimpArgs false
namespace Go.Proofs.YtlehjmanlccncaaGreatDoor
open Go.RowKit

set_option maxRecDepth 100000 in
set_option maxHeartbeats 8000000 in
theorem sane_any (w : World) (T : RW w) : Calls Tryz.prog 11 #[] w fun e w' => e = .returned (.bool true) ∧ Below w.heap.size w w' := by
  have HT := Lib.hid T
  have BB := Lib.hid (Below.refl w.heap.size w)
  have C1 := Lib.hid rex_1
  have C2 := Lib.hid rex_2
  have C3 := Lib.hid rex_3
  have C4 := Lib.hid rex_4
  have C5 := Lib.hid rex_5
  have C6 := Lib.hid rex_6
  have C7 := Lib.hid rex_7
  have C8 := Lib.hid rex_8
  have C9 := Lib.hid rex_9
  have C10 := Lib.hid rex_10
  have C11 := Lib.hid rex_11
  have C12 := Lib.hid rex_12
  have C13 := Lib.hid rex_13
  have C14 := Lib.hid rex_14
  have CI := Lib.hid is_any
  clear T
  go_enter Tryz.func11, Tryz.ntmps11
  go_wp2_with fail
  with_reducible refine Calls.mono (C1.out _ HT.out) ?_
  rintro e w1 ⟨rfl, hb⟩
  replace HT := Lib.hid (HT.out.next hb)
  replace BB := Lib.hid (Below.andThen BB.out hb)
  clear hb
  go_wp2_with fail
  refine calls_named fun v1 hq => ?_
  obtain ⟨bA, ebA⟩ : ∃ b, b = w1.heap.size := ⟨_, rfl⟩
  have A := Lib.hid (show Row v1 bA 23 [.string ⟨#[45, 51]⟩, .string ⟨#[50]⟩] from by rw [hq, ebA]; first | exact Row.new _ _ _ | exact ((Row.new w1 23 [.string ⟨#[]⟩, .string ⟨#[]⟩]).set 0 (.string ⟨#[45, 51]⟩)).set 1 (.string ⟨#[50]⟩))
  have hb : Below w1.heap.size w1 v1 := by rw [hq]; first | exact (Below.refl _ _).alloc (Nat.le_refl _) _ | exact (((Below.refl _ _).alloc (Nat.le_refl _) _).setCell (p := ⟨w1.heap.size, 0, none⟩) (Nat.le_refl _) _).setCell (p := ⟨w1.heap.size, 1, none⟩) (Nat.le_refl _) _
  replace HT := Lib.hid (HT.out.next hb)
  replace BB := Lib.hid (Below.andThen BB.out hb)
  rw [← ebA]
  clear hq hb ebA
  with_reducible refine Calls.mono (C2.out _ HT.out) ?_
  rintro e w2 ⟨rfl, hb⟩
  replace HT := Lib.hid (HT.out.next hb)
  replace A := Lib.hid (A.out.next hb)
  replace BB := Lib.hid (Below.andThen BB.out hb)
  clear hb
  go_wp2_with fail
  refine calls_named fun v2 hq => ?_
  obtain ⟨bB, ebB⟩ : ∃ b, b = w2.heap.size := ⟨_, rfl⟩
  have B := Lib.hid (show Row v2 bB 23 [.string ⟨#[48]⟩, .string ⟨#[49]⟩] from by rw [hq, ebB]; first | exact Row.new _ _ _ | exact ((Row.new w2 23 [.string ⟨#[]⟩, .string ⟨#[]⟩]).set 0 (.string ⟨#[48]⟩)).set 1 (.string ⟨#[49]⟩))
  have hb : Below w2.heap.size w2 v2 := by rw [hq]; first | exact (Below.refl _ _).alloc (Nat.le_refl _) _ | exact (((Below.refl _ _).alloc (Nat.le_refl _) _).setCell (p := ⟨w2.heap.size, 0, none⟩) (Nat.le_refl _) _).setCell (p := ⟨w2.heap.size, 1, none⟩) (Nat.le_refl _) _
  replace HT := Lib.hid (HT.out.next hb)
  replace A := Lib.hid (A.out.next hb)
  replace BB := Lib.hid (Below.andThen BB.out hb)
  rw [← ebB]
  clear hq hb ebB
  with_reducible refine Calls.mono (C3.out _ HT.out) ?_
  rintro e w3 ⟨rfl, hb⟩
  replace HT := Lib.hid (HT.out.next hb)
  replace A := Lib.hid (A.out.next hb)
  replace B := Lib.hid (B.out.next hb)
  replace BB := Lib.hid (Below.andThen BB.out hb)
  clear hb
  go_wp2_with fail
  refine calls_named fun v3 hq => ?_
  obtain ⟨bG, ebG⟩ : ∃ b, b = w3.heap.size := ⟨_, rfl⟩
  have G := Lib.hid (show Row v3 bG 23 [.string ⟨#[]⟩, .string ⟨#[]⟩] from by rw [hq, ebG]; first | exact Row.new _ _ _ | exact ((Row.new w3 23 [.string ⟨#[]⟩, .string ⟨#[]⟩]).set 0 (.string ⟨#[]⟩)).set 1 (.string ⟨#[]⟩))
  have hb : Below w3.heap.size w3 v3 := by rw [hq]; first | exact (Below.refl _ _).alloc (Nat.le_refl _) _ | exact (((Below.refl _ _).alloc (Nat.le_refl _) _).setCell (p := ⟨w3.heap.size, 0, none⟩) (Nat.le_refl _) _).setCell (p := ⟨w3.heap.size, 1, none⟩) (Nat.le_refl _) _
  replace HT := Lib.hid (HT.out.next hb)
  replace A := Lib.hid (A.out.next hb)
  replace B := Lib.hid (B.out.next hb)
  replace BB := Lib.hid (Below.andThen BB.out hb)
  rw [← ebG]
  clear hq hb ebG
  with_reducible refine Calls.mono (CI.out _ _ _) ?_
  rintro e x3 ⟨rfl, hb⟩
  replace HT := Lib.hid (HT.out.next hb)
  replace A := Lib.hid (A.out.next hb)
  replace B := Lib.hid (B.out.next hb)
  replace BB := Lib.hid (Below.andThen BB.out hb)
  clear hb
  go_wp2_with fail
  with_reducible refine Calls.mono (CI.out _ _ _) ?_
  rintro e y3 ⟨rfl, hb⟩
  replace HT := Lib.hid (HT.out.next hb)
  replace A := Lib.hid (A.out.next hb)
  replace B := Lib.hid (B.out.next hb)
  replace BB := Lib.hid (Below.andThen BB.out hb)
  clear hb
  go_wp2_with fail
  with_reducible refine Calls.mono (C4.out _ HT.out) ?_
  rintro e w4 ⟨rfl, hb⟩
  replace HT := Lib.hid (HT.out.next hb)
  replace A := Lib.hid (A.out.next hb)
  replace B := Lib.hid (B.out.next hb)
  replace BB := Lib.hid (Below.andThen BB.out hb)
  clear hb
  go_wp2_with fail
  refine calls_named fun v4 hq => ?_
  obtain ⟨bC, ebC⟩ : ∃ b, b = w4.heap.size := ⟨_, rfl⟩
  have C := Lib.hid (show Row v4 bC 23 [.string ⟨#[53]⟩, .string ⟨#[54]⟩] from by rw [hq, ebC]; first | exact Row.new _ _ _ | exact ((Row.new w4 23 [.string ⟨#[]⟩, .string ⟨#[]⟩]).set 0 (.string ⟨#[53]⟩)).set 1 (.string ⟨#[54]⟩))
  have hb : Below w4.heap.size w4 v4 := by rw [hq]; first | exact (Below.refl _ _).alloc (Nat.le_refl _) _ | exact (((Below.refl _ _).alloc (Nat.le_refl _) _).setCell (p := ⟨w4.heap.size, 0, none⟩) (Nat.le_refl _) _).setCell (p := ⟨w4.heap.size, 1, none⟩) (Nat.le_refl _) _
  replace HT := Lib.hid (HT.out.next hb)
  replace A := Lib.hid (A.out.next hb)
  replace B := Lib.hid (B.out.next hb)
  replace BB := Lib.hid (Below.andThen BB.out hb)
  rw [← ebC]
  clear hq hb ebC
  with_reducible refine Calls.mono (CI.out _ _ _) ?_
  rintro e x4 ⟨rfl, hb⟩
  replace HT := Lib.hid (HT.out.next hb)
  replace A := Lib.hid (A.out.next hb)
  replace B := Lib.hid (B.out.next hb)
  replace C := Lib.hid (C.out.next hb)
  replace BB := Lib.hid (Below.andThen BB.out hb)
  clear hb
  go_wp2_with fail
  with_reducible refine Calls.mono (CI.out _ _ _) ?_
  rintro e y4 ⟨rfl, hb⟩
  replace HT := Lib.hid (HT.out.next hb)
  replace A := Lib.hid (A.out.next hb)
  replace B := Lib.hid (B.out.next hb)
  replace C := Lib.hid (C.out.next hb)
  replace BB := Lib.hid (Below.andThen BB.out hb)
  clear hb
  go_wp2_with fail
  with_reducible refine Calls.mono (C5.out _ HT.out) ?_
  rintro e w5 ⟨rfl, hb⟩
  replace HT := Lib.hid (HT.out.next hb)
  replace A := Lib.hid (A.out.next hb)
  replace B := Lib.hid (B.out.next hb)
  replace C := Lib.hid (C.out.next hb)
  replace BB := Lib.hid (Below.andThen BB.out hb)
  clear hb
  go_upto_region 6 with (fail)
  refine wp_named fun v5 hq => ?_
  obtain ⟨bD, ebD⟩ : ∃ b, b = w5.heap.size := ⟨_, rfl⟩
  have D := Lib.hid (show Row v5 bD 23 [.string ⟨#[45, 50]⟩, .string ⟨#[49]⟩] from by rw [hq, ebD]; first | exact Row.new _ _ _ | exact ((Row.new w5 23 [.string ⟨#[]⟩, .string ⟨#[]⟩]).set 0 (.string ⟨#[45, 50]⟩)).set 1 (.string ⟨#[49]⟩))
  have hb : Below w5.heap.size w5 v5 := by rw [hq]; first | exact (Below.refl _ _).alloc (Nat.le_refl _) _ | exact (((Below.refl _ _).alloc (Nat.le_refl _) _).setCell (p := ⟨w5.heap.size, 0, none⟩) (Nat.le_refl _) _).setCell (p := ⟨w5.heap.size, 1, none⟩) (Nat.le_refl _) _
  replace HT := Lib.hid (HT.out.next hb)
  replace A := Lib.hid (A.out.next hb)
  replace B := Lib.hid (B.out.next hb)
  replace C := Lib.hid (C.out.next hb)
  replace BB := Lib.hid (Below.andThen BB.out hb)
  rw [← ebD]
  clear hq hb ebD
  obtain ⟨cB0, cB1⟩ := B.out.two
  have lB := B.out.lt
  refine wp_region_late_float 5 [7] 6 7 _ (.cells #[.string ⟨#[]⟩, .string ⟨#[]⟩] 23) (by kernel_rfl) (by kernel_rfl) (fun dst _ _ _ _ h => by cases dst <;> exact h) (by kernel_rfl) (by kernel_rfl) rfl rfl (fun ρ w1 => by go_simp) v5.heap.size 0 (by simp) (fun WW hk hWW => ?_)
  simp only [List.take_succ_cons, List.take_zero, List.drop_succ_cons, List.drop_zero, List.cons_append, List.nil_append]
  repeat (go_big_quiet_step (first | (go_at_call 41; with_reducible exact Calls.kin (CI.out _ _ _)) | (go_at_call 45; with_reducible exact Calls.kin (C6.out _ ((HT.out.next hWW).next (Kin.below _))))))
  refine wpQuiet_nil ?_
  clear hk hWW
  intro w6 b6 hfb hfl hfo
  obtain ⟨ocb6, ofb6⟩ := block_cells hfo
  have osb6 := block_lt hfo
  have HFB := Lib.hid hfb
  have HFL := Lib.hid hfl
  have HFO := Lib.hid (show Row w6 b6 23 [.string ⟨#[]⟩, .string ⟨#[]⟩] from hfo)
  clear hfo hfb hfl
  simp only [Act.put, List.setIfInBounds_toArray, List.set_cons_zero, List.set_cons_succ]
  
  clear cB0 cB1 lB
  go_wp2_with fail
  refine calls_named fun v6 hq => ?_
  have J := Lib.hid (show Row v6 b6 23 [.string ⟨#[]⟩, .string ⟨#[]⟩] from by rw [hq]; exact (HFO.out.set 0 (.string ⟨#[]⟩)).set 1 (.string ⟨#[]⟩))
  have hb : Below v5.heap.size v5 v6 := by rw [hq]; exact (HFB.out.setCell (p := ⟨b6, 0, none⟩) HFL.out _).setCell (p := ⟨b6, 1, none⟩) HFL.out _
  replace HT := Lib.hid (HT.out.next hb)
  replace A := Lib.hid (A.out.next hb)
  replace B := Lib.hid (B.out.next hb)
  replace C := Lib.hid (C.out.next hb)
  replace D := Lib.hid (D.out.next hb)
  replace BB := Lib.hid (Below.andThen BB.out hb)
  clear hq hb HFO HFB HFL ocb6 ofb6 osb6
  with_reducible refine Calls.mono (CI.out _ _ _) ?_
  rintro e x6 ⟨rfl, hb⟩
  replace HT := Lib.hid (HT.out.next hb)
  replace A := Lib.hid (A.out.next hb)
  replace B := Lib.hid (B.out.next hb)
  replace C := Lib.hid (C.out.next hb)
  replace D := Lib.hid (D.out.next hb)
  replace BB := Lib.hid (Below.andThen BB.out hb)
  clear hb
  go_wp2_with fail
  with_reducible refine Calls.mono (C7.out _ HT.out) ?_
  rintro e w7 ⟨rfl, hb⟩
  replace HT := Lib.hid (HT.out.next hb)
  replace A := Lib.hid (A.out.next hb)
  replace B := Lib.hid (B.out.next hb)
  replace C := Lib.hid (C.out.next hb)
  replace D := Lib.hid (D.out.next hb)
  replace BB := Lib.hid (Below.andThen BB.out hb)
  clear hb
  go_wp2_with fail
  refine calls_named fun v7 hq => ?_
  obtain ⟨bK, ebK⟩ : ∃ b, b = w7.heap.size := ⟨_, rfl⟩
  have K := Lib.hid (show Row v7 bK 23 [.string ⟨#[45, 49, 55]⟩, .string ⟨#[53, 48]⟩] from by rw [hq, ebK]; first | exact Row.new _ _ _ | exact ((Row.new w7 23 [.string ⟨#[]⟩, .string ⟨#[]⟩]).set 0 (.string ⟨#[45, 49, 55]⟩)).set 1 (.string ⟨#[53, 48]⟩))
  have hb : Below w7.heap.size w7 v7 := by rw [hq]; first | exact (Below.refl _ _).alloc (Nat.le_refl _) _ | exact (((Below.refl _ _).alloc (Nat.le_refl _) _).setCell (p := ⟨w7.heap.size, 0, none⟩) (Nat.le_refl _) _).setCell (p := ⟨w7.heap.size, 1, none⟩) (Nat.le_refl _) _
  replace HT := Lib.hid (HT.out.next hb)
  replace A := Lib.hid (A.out.next hb)
  replace B := Lib.hid (B.out.next hb)
  replace C := Lib.hid (C.out.next hb)
  replace D := Lib.hid (D.out.next hb)
  replace BB := Lib.hid (Below.andThen BB.out hb)
  rw [← ebK]
  clear hq hb ebK
  with_reducible refine Calls.mono (CI.out _ _ _) ?_
  rintro e x7 ⟨rfl, hb⟩
  replace HT := Lib.hid (HT.out.next hb)
  replace A := Lib.hid (A.out.next hb)
  replace B := Lib.hid (B.out.next hb)
  replace C := Lib.hid (C.out.next hb)
  replace D := Lib.hid (D.out.next hb)
  replace K := Lib.hid (K.out.next hb)
  replace BB := Lib.hid (Below.andThen BB.out hb)
  clear hb
  go_wp2_with fail
  with_reducible refine Calls.mono (C8.out _ HT.out) ?_
  rintro e w8 ⟨rfl, hb⟩
  replace HT := Lib.hid (HT.out.next hb)
  replace A := Lib.hid (A.out.next hb)
  replace B := Lib.hid (B.out.next hb)
  replace C := Lib.hid (C.out.next hb)
  replace D := Lib.hid (D.out.next hb)
  replace K := Lib.hid (K.out.next hb)
  replace BB := Lib.hid (Below.andThen BB.out hb)
  clear hb
  go_wp2_with fail
  refine calls_named fun v8 hq => ?_
  obtain ⟨bM, ebM⟩ : ∃ b, b = w8.heap.size := ⟨_, rfl⟩
  have M := Lib.hid (show Row v8 bM 23 [.string ⟨#[49, 55]⟩, .string ⟨#[53, 48]⟩] from by rw [hq, ebM]; first | exact Row.new _ _ _ | exact ((Row.new w8 23 [.string ⟨#[]⟩, .string ⟨#[]⟩]).set 0 (.string ⟨#[49, 55]⟩)).set 1 (.string ⟨#[53, 48]⟩))
  have hb : Below w8.heap.size w8 v8 := by rw [hq]; first | exact (Below.refl _ _).alloc (Nat.le_refl _) _ | exact (((Below.refl _ _).alloc (Nat.le_refl _) _).setCell (p := ⟨w8.heap.size, 0, none⟩) (Nat.le_refl _) _).setCell (p := ⟨w8.heap.size, 1, none⟩) (Nat.le_refl _) _
  replace HT := Lib.hid (HT.out.next hb)
  replace A := Lib.hid (A.out.next hb)
  replace B := Lib.hid (B.out.next hb)
  replace C := Lib.hid (C.out.next hb)
  replace D := Lib.hid (D.out.next hb)
  replace K := Lib.hid (K.out.next hb)
  replace BB := Lib.hid (Below.andThen BB.out hb)
  rw [← ebM]
  clear hq hb ebM
  with_reducible refine Calls.mono (C9.out _ HT.out) ?_
  rintro e w9 ⟨rfl, hb⟩
  replace HT := Lib.hid (HT.out.next hb)
  replace A := Lib.hid (A.out.next hb)
  replace B := Lib.hid (B.out.next hb)
  replace C := Lib.hid (C.out.next hb)
  replace D := Lib.hid (D.out.next hb)
  replace K := Lib.hid (K.out.next hb)
  replace M := Lib.hid (M.out.next hb)
  replace BB := Lib.hid (Below.andThen BB.out hb)
  clear hb
  go_wp2_with fail
  refine calls_named fun v9 hq => ?_
  obtain ⟨bO, ebO⟩ : ∃ b, b = w9.heap.size := ⟨_, rfl⟩
  have O := Lib.hid (show Row v9 bO 23 [.string ⟨#[45, 51]⟩, .string ⟨#[50]⟩] from by rw [hq, ebO]; first | exact Row.new _ _ _ | exact ((Row.new w9 23 [.string ⟨#[]⟩, .string ⟨#[]⟩]).set 0 (.string ⟨#[45, 51]⟩)).set 1 (.string ⟨#[50]⟩))
  have hb : Below w9.heap.size w9 v9 := by rw [hq]; first | exact (Below.refl _ _).alloc (Nat.le_refl _) _ | exact (((Below.refl _ _).alloc (Nat.le_refl _) _).setCell (p := ⟨w9.heap.size, 0, none⟩) (Nat.le_refl _) _).setCell (p := ⟨w9.heap.size, 1, none⟩) (Nat.le_refl _) _
  replace HT := Lib.hid (HT.out.next hb)
  replace A := Lib.hid (A.out.next hb)
  replace B := Lib.hid (B.out.next hb)
  replace C := Lib.hid (C.out.next hb)
  replace D := Lib.hid (D.out.next hb)
  replace K := Lib.hid (K.out.next hb)
  replace M := Lib.hid (M.out.next hb)
  replace BB := Lib.hid (Below.andThen BB.out hb)
  rw [← ebO]
  clear hq hb ebO
  with_reducible refine Calls.mono (C10.out _ HT.out) ?_
  rintro e w10 ⟨rfl, hb⟩
  replace HT := Lib.hid (HT.out.next hb)
  replace A := Lib.hid (A.out.next hb)
  replace B := Lib.hid (B.out.next hb)
  replace C := Lib.hid (C.out.next hb)
  replace D := Lib.hid (D.out.next hb)
  replace K := Lib.hid (K.out.next hb)
  replace M := Lib.hid (M.out.next hb)
  replace O := Lib.hid (O.out.next hb)
  replace BB := Lib.hid (Below.andThen BB.out hb)
  clear hb
  go_upto_region 12 with (fail)
  refine wp_named fun v10 hq => ?_
  obtain ⟨bQ, ebQ⟩ : ∃ b, b = w10.heap.size := ⟨_, rfl⟩
  have Q := Lib.hid (show Row v10 bQ 23 [.string ⟨#[]⟩, .string ⟨#[]⟩] from by rw [hq, ebQ]; first | exact Row.new _ _ _ | exact ((Row.new w10 23 [.string ⟨#[]⟩, .string ⟨#[]⟩]).set 0 (.string ⟨#[]⟩)).set 1 (.string ⟨#[]⟩))
  have hb : Below w10.heap.size w10 v10 := by rw [hq]; first | exact (Below.refl _ _).alloc (Nat.le_refl _) _ | exact (((Below.refl _ _).alloc (Nat.le_refl _) _).setCell (p := ⟨w10.heap.size, 0, none⟩) (Nat.le_refl _) _).setCell (p := ⟨w10.heap.size, 1, none⟩) (Nat.le_refl _) _
  replace HT := Lib.hid (HT.out.next hb)
  replace A := Lib.hid (A.out.next hb)
  replace B := Lib.hid (B.out.next hb)
  replace C := Lib.hid (C.out.next hb)
  replace D := Lib.hid (D.out.next hb)
  replace K := Lib.hid (K.out.next hb)
  replace M := Lib.hid (M.out.next hb)
  replace O := Lib.hid (O.out.next hb)
  replace BB := Lib.hid (Below.andThen BB.out hb)
  rw [← ebQ]
  clear hq hb ebQ
  obtain ⟨cA0, cA1⟩ := A.out.two
  have lA := A.out.lt
  obtain ⟨cB0, cB1⟩ := B.out.two
  have lB := B.out.lt
  obtain ⟨cC0, cC1⟩ := C.out.two
  have lC := C.out.lt
  obtain ⟨cD0, cD1⟩ := D.out.two
  have lD := D.out.lt
  obtain ⟨cK0, cK1⟩ := K.out.two
  have lK := K.out.lt
  obtain ⟨cM0, cM1⟩ := M.out.two
  have lM := M.out.lt
  obtain ⟨cO0, cO1⟩ := O.out.two
  have lO := O.out.lt
  refine wp_region_kin (by kernel_rfl) (by kernel_rfl) v10.heap.size 0 (by simp) (fun hk => ?_)
  repeat (go_big_quiet_step (first | (go_at_call 41; with_reducible exact Calls.kin (CI.out _ _ _)) | (go_at_call 33; with_reducible exact Calls.kin (C11.out _ (HT.out.next (Kin.below _)))) | (go_at_call 20; with_reducible exact Calls.kin (C12.out _ (HT.out.next (Kin.below _)))) | (go_at_call 29; first | with_reducible exact Calls.kin (C13.out _ (HT.out.next (Kin.below _))) | with_reducible exact Calls.kin (C14.out _ (HT.out.next (Kin.below _))))))
  refine wpQuiet_nil ?_
  clear hk
  intro w11 hb
  have HX := Lib.hid (Below.andThen BB.out hb)
  clear hb
  go_wp2_with fail
  go_ret
  exact ⟨rfl, HX.out⟩
end Go.Proofs.YtlehjmanlccncaaGreatDoor
