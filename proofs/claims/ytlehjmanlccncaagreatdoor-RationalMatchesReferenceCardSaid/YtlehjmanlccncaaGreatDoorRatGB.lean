/- Valid, Make, Of. -/
/- Make, Of. -/
/- Print. -/
/- Parse. -/
import Derived.Test.YtlehjmanlccncaaGreatDoorRatGA
import Derived.Test.YtlehjmanlccncaaGreatDoorShelf
import Derived.Lib.CutLaws
set_option linter.unusedVariables false
set_option linter.unusedSimpArgs false
namespace Go.Proofs.YtlehjmanlccncaaGreatDoor
open Go.RowKit

theorem num1 : In.num ⟨#[49]⟩ = some 1 := by kernel_rfl
theorem num0 : In.num ⟨#[48]⟩ = some 0 := by kernel_rfl
theorem one_text (z : Int) : ((In.txt z).toList == ([49] : List UInt8)) = decide (z = 1) := by
  have e : In.txt 1 = ⟨#[49]⟩ := ((In.num_some num1).1).symm
  rw [show ([49] : List UInt8) = (In.txt 1).toList by rw [e, ByteArray.toList_eq], Bool.eq_iff_iff]
  simp only [beq_iff_eq, decide_eq_true_eq]
  rw [ByteArray.toList_eq, ByteArray.toList_eq, In.txt_list, In.txt_list]
  exact ⟨In.txtL_inj, fun h => by rw [h]⟩
theorem zero_text (z : Int) : ((In.txt z).toList == ([48] : List UInt8)) = decide (z = 0) := by
  have e : In.txt 0 = ⟨#[48]⟩ := ((In.num_some num0).1).symm
  rw [show ([48] : List UInt8) = (In.txt 0).toList by rw [e, ByteArray.toList_eq], Bool.eq_iff_iff]
  simp only [beq_iff_eq, decide_eq_true_eq]
  rw [ByteArray.toList_eq, ByteArray.toList_eq, In.txt_list, In.txt_list]
  exact ⟨In.txtL_inj, fun h => by rw [h]⟩
theorem gcd_any_fit {x y : Int} (hx : In.Fit x) (hy : In.Fit y) : In.Fit (In.gcdZ x y) := by
  show Int.natAbs ((Nat.gcd x.natAbs y.natAbs : Nat) : Int) < _
  rw [Int.natAbs_natCast]
  rcases Nat.eq_zero_or_pos x.natAbs with h | h
  · rw [h, Nat.gcd_zero_left]; exact hy
  · exact Nat.lt_of_le_of_lt (Nat.gcd_le_left _ h) hx
/-- what Valid finds -/
theorem valid_cases (r : ByteArray × ByteArray) :
    ((Ra.val r).isSome = true ∧ In.opS In.gcdZ r.1 r.2 = (⟨#[49]⟩, 0) ∧ In.cmpS r.2 ⟨#[48]⟩ = 1) ∨
    ((Ra.val r).isSome = false ∧ ((In.opS In.gcdZ r.1 r.2).2 = 30 ∨ ((In.opS In.gcdZ r.1 r.2).2 = 0 ∧ ((In.opS In.gcdZ r.1 r.2).1.toList == ([49] : List UInt8)) = false) ∨ (In.opS In.gcdZ r.1 r.2 = (⟨#[49]⟩, 0) ∧ In.cmpS r.2 ⟨#[48]⟩ ≤ 0))) := by
  cases hx : In.num r.1 with
  | none =>
    right
    refine ⟨?_, .inl (by rw [In.opS_left hx])⟩
    unfold Ra.val
    rw [hx]
    rfl
  | some x =>
    cases hy : In.num r.2 with
    | none =>
      right
      refine ⟨?_, .inl (by rw [In.opS_right hy])⟩
      unfold Ra.val
      rw [hx, hy]
      rfl
    | some y =>
      have hg : In.opS In.gcdZ r.1 r.2 = (In.txt (In.gcdZ x y), 0) := by
        rw [In.opS_some hx hy]
        exact In.fit_pos (gcd_any_fit (In.num_some hx).2 (In.num_some hy).2)
      have hc : In.cmpS r.2 ⟨#[48]⟩ = In.cmpZ y 0 := In.cmpS_some hy num0
      have e1 : In.txt 1 = ⟨#[49]⟩ := ((In.num_some num1).1).symm
      have hv : (Ra.val r).isSome = decide (0 < y ∧ In.gcdZ x y = 1) := by
        unfold Ra.val
        rw [hx, hy]
        dsimp only
        by_cases h : 0 < y ∧ Ra.gcdI x y = 1
        · rw [if_pos h, decide_eq_true (p := 0 < y ∧ In.gcdZ x y = 1) h]; rfl
        · rw [if_neg h, decide_eq_false (p := 0 < y ∧ In.gcdZ x y = 1) h]; rfl
      rw [hg, hv, hc]
      by_cases h1 : In.gcdZ x y = 1
      · rw [h1, e1]
        by_cases h2 : 0 < y
        · left
          refine ⟨decide_eq_true ⟨h2, rfl⟩, rfl, ?_⟩
          unfold In.cmpZ
          rw [if_neg (by omega), if_pos h2]
        · right
          refine ⟨decide_eq_false (fun h => h2 h.1), .inr (.inr ⟨rfl, ?_⟩)⟩
          unfold In.cmpZ
          split
          · decide
          · first | decide | (rw [if_neg h2]; decide)
      · right
        refine ⟨decide_eq_false (fun h => h1 h.2), .inr (.inl ⟨rfl, ?_⟩)⟩
        rw [one_text]
        exact decide_eq_false h1
set_option maxRecDepth 100000 in
set_option maxHeartbeats 4000000 in
theorem Valid_r (r : ByteArray × ByteArray) (w : World) (T : TabI w) :
    Calls Tryz.prog 29 #[ratV r] w fun e w' => e = .returned (.bool (Ra.val r).isSome) ∧ Below w.heap.size w w' := by
  have key := valid_cases r
  obtain ⟨s, t⟩ := r
  dsimp only at key
  have CG := Lib.hid (fun W T => Gcd_any s t W T)
  have CC := Lib.hid (fun W => Compare_any t ⟨#[48]⟩ W)
  have HT := Lib.hid T
  generalize (Ra.val (s, t)).isSome = V at *
  generalize In.opS In.gcdZ s t = R at *
  generalize In.cmpS t ⟨#[48]⟩ = C at *
  obtain ⟨R1, R2⟩ := R
  dsimp only at key CG
  clear T
  rcases key with ⟨rfl, h1, rfl⟩ | ⟨rfl, rfl | ⟨rfl, h1⟩ | ⟨h1, h2⟩⟩
  · obtain ⟨rfl, rfl⟩ := Prod.mk.inj h1
    clear h1
    go_enter Tryz.func29, Tryz.ntmps29
    go_upto_region 1 with (fail)
    refine wp_named fun w1 hw => ?_
    obtain ⟨b0, hb0⟩ : ∃ x, x = w.heap.size := ⟨_, rfl⟩
    have HX := Lib.hid (show Row w1 b0 23 [.string s, .string t] ∧ Below w.heap.size w w1 from by rw [hw, hb0]; exact ⟨Row.new _ _ _, (Below.refl _ _).alloc (Nat.le_refl _) _⟩)
    rw [← hb0]
    have k0 := (Row.cell HX.out.1 0).trans (show _ = some (Value.string s) from rfl)
    have k1 := (Row.cell HX.out.1 1).trans (show _ = some (Value.string t) from rfl)
    have lb := HX.out.1.lt
    clear hw hb0
    go_wp2_with fail
    with_reducible refine Calls.mono (CG.out _ (TabI.next HT.out HX.out.2)) ?_
    rintro e w2 ⟨rfl, hb⟩
    have HY := Lib.hid (And.intro (HX.out.1.next hb) (Below.andThen HX.out.2 hb))
    clear hb k0 k1 lb
    have k1 := (Row.cell HY.out.1 1).trans (show _ = some (Value.string t) from rfl)
    have lb := HY.out.1.lt
    go_wp2_with fail
    with_reducible refine Calls.mono (CC.out _) ?_
    rintro e w3 ⟨rfl, hb⟩
    have HZ := Lib.hid (Below.andThen HY.out.2 hb)
    clear hb k1 lb
    go_wp2_with fail
    go_ret
    exact ⟨rfl, HZ.out⟩
  · go_enter Tryz.func29, Tryz.ntmps29
    go_upto_region 1 with (fail)
    refine wp_named fun w1 hw => ?_
    obtain ⟨b0, hb0⟩ : ∃ x, x = w.heap.size := ⟨_, rfl⟩
    have HX := Lib.hid (show Row w1 b0 23 [.string s, .string t] ∧ Below w.heap.size w w1 from by rw [hw, hb0]; exact ⟨Row.new _ _ _, (Below.refl _ _).alloc (Nat.le_refl _) _⟩)
    rw [← hb0]
    have k0 := (Row.cell HX.out.1 0).trans (show _ = some (Value.string s) from rfl)
    have k1 := (Row.cell HX.out.1 1).trans (show _ = some (Value.string t) from rfl)
    have lb := HX.out.1.lt
    clear hw hb0
    go_wp2_with fail
    with_reducible refine Calls.mono (CG.out _ (TabI.next HT.out HX.out.2)) ?_
    rintro e w2 ⟨rfl, hb⟩
    have HY := Lib.hid (And.intro (HX.out.1.next hb) (Below.andThen HX.out.2 hb))
    clear hb k0 k1 lb
    go_wp2_with fail
    go_ret
    exact ⟨rfl, HY.out.2⟩
  · go_enter Tryz.func29, Tryz.ntmps29
    go_upto_region 1 with (fail)
    refine wp_named fun w1 hw => ?_
    obtain ⟨b0, hb0⟩ : ∃ x, x = w.heap.size := ⟨_, rfl⟩
    have HX := Lib.hid (show Row w1 b0 23 [.string s, .string t] ∧ Below w.heap.size w w1 from by rw [hw, hb0]; exact ⟨Row.new _ _ _, (Below.refl _ _).alloc (Nat.le_refl _) _⟩)
    rw [← hb0]
    have k0 := (Row.cell HX.out.1 0).trans (show _ = some (Value.string s) from rfl)
    have k1 := (Row.cell HX.out.1 1).trans (show _ = some (Value.string t) from rfl)
    have lb := HX.out.1.lt
    clear hw hb0
    go_wp2_with fail
    with_reducible refine Calls.mono (CG.out _ (TabI.next HT.out HX.out.2)) ?_
    rintro e w2 ⟨rfl, hb⟩
    have HY := Lib.hid (And.intro (HX.out.1.next hb) (Below.andThen HX.out.2 hb))
    clear hb k0 k1 lb
    go_wp2_with fail
    go_ret
    exact ⟨rfl, HY.out.2⟩
  · obtain ⟨rfl, rfl⟩ := Prod.mk.inj h1
    have d9 : decide (0 < C) = false := by rw [decide_eq_false_iff_not]; omega
    clear h1 h2
    go_enter Tryz.func29, Tryz.ntmps29
    go_upto_region 1 with (fail)
    refine wp_named fun w1 hw => ?_
    obtain ⟨b0, hb0⟩ : ∃ x, x = w.heap.size := ⟨_, rfl⟩
    have HX := Lib.hid (show Row w1 b0 23 [.string s, .string t] ∧ Below w.heap.size w w1 from by rw [hw, hb0]; exact ⟨Row.new _ _ _, (Below.refl _ _).alloc (Nat.le_refl _) _⟩)
    rw [← hb0]
    have k0 := (Row.cell HX.out.1 0).trans (show _ = some (Value.string s) from rfl)
    have k1 := (Row.cell HX.out.1 1).trans (show _ = some (Value.string t) from rfl)
    have lb := HX.out.1.lt
    clear hw hb0
    go_wp2_with fail
    with_reducible refine Calls.mono (CG.out _ (TabI.next HT.out HX.out.2)) ?_
    rintro e w2 ⟨rfl, hb⟩
    have HY := Lib.hid (And.intro (HX.out.1.next hb) (Below.andThen HX.out.2 hb))
    clear hb k0 k1 lb
    have k1 := (Row.cell HY.out.1 1).trans (show _ = some (Value.string t) from rfl)
    have lb := HY.out.1.lt
    go_wp2_with fail
    with_reducible refine Calls.mono (CC.out _) ?_
    rintro e w3 ⟨rfl, hb⟩
    have HZ := Lib.hid (Below.andThen HY.out.2 hb)
    clear hb k1 lb
    go_wp2_with fail
    go_ret
    exact ⟨rfl, HZ.out⟩
end Go.Proofs.YtlehjmanlccncaaGreatDoor
set_option linter.unusedVariables false
set_option linter.unusedSimpArgs false
namespace Go.Proofs.YtlehjmanlccncaaGreatDoor
open Go.RowKit

theorem lit_is_zero {b : ByteArray} {y : Int} (h : In.num b = some y) : (b.toList == ([48] : List UInt8)) = decide (y = 0) := by
  obtain ⟨rfl, _⟩ := In.num_some h
  exact zero_text y
theorem vnone {s : ByteArray} (h : In.num s = none) (w : World) : Calls Tryz.prog 57 #[.string s] w fun e w' => e = .returned (.bool false) ∧ w = w' := by
  have := valid_any s w
  rwa [In.num_none.1 h] at this
theorem vsome {s : ByteArray} {x : Int} (h : In.num s = some x) (w : World) : Calls Tryz.prog 57 #[.string s] w fun e w' => e = .returned (.bool true) ∧ w = w' := by
  have := valid_any s w
  rwa [← In.num_isSome, h] at this
set_option maxRecDepth 100000 in
set_option maxHeartbeats 4000000 in
theorem Make_r (n d : ByteArray) (w : World) (T : TabI w) :
    Calls Tryz.prog 27 #[.string n, .string d] w fun e w' => e = .returned (resV (Ra.makeS n d)) ∧ Below w.heap.size w w' := by
  have HT := Lib.hid T
  have HBR := Lib.hid ((Below.refl w.heap.size w).alloc (Nat.le_refl _) (.cells #[.string ⟨#[]⟩, .string ⟨#[]⟩] 23))
  have hrow := Row.new w 23 [.string ⟨#[]⟩, .string ⟨#[]⟩]
  have HROW := Lib.hid hrow
  clear T hrow
  cases hx : In.num n with
  | none =>
    have V1 := Lib.hid (fun W => vnone hx W)
    have e : Ra.makeS n d = none := by unfold Ra.makeS; rw [hx]
    rw [e]
    clear hx e
    go_enter Tryz.func27, Tryz.ntmps27
    go_wp2_with fail
    with_reducible refine Calls.mono (V1.out _) ?_
    rintro e w' ⟨rfl, rfl⟩
    go_wp2_with fail
    refine bodyPost_ret (v := .tuple #[.agg #[.string ⟨#[]⟩, .string ⟨#[]⟩], .int .i64 40]) (by first | (simp [results, Tryz.results27, go_sem]; done) | simp [results, Tryz.results27, go_sem, *]) rfl ⟨rfl, HBR.out⟩
  | some x =>
    have V1 := Lib.hid (fun W => vsome hx W)
    cases hy : In.num d with
    | none =>
      have V2 := Lib.hid (fun W => vnone hy W)
      have e : Ra.makeS n d = none := by unfold Ra.makeS; rw [hx, hy]
      rw [e]
      clear hx hy e
      go_enter Tryz.func27, Tryz.ntmps27
      go_wp2_with fail
      with_reducible refine Calls.mono (V1.out _) ?_
      rintro e w' ⟨rfl, rfl⟩
      go_wp2_with fail
      with_reducible refine Calls.mono (V2.out _) ?_
      rintro e w' ⟨rfl, rfl⟩
      go_wp2_with fail
      refine bodyPost_ret (v := .tuple #[.agg #[.string ⟨#[]⟩, .string ⟨#[]⟩], .int .i64 40]) (by first | (simp [results, Tryz.results27, go_sem]; done) | simp [results, Tryz.results27, go_sem, *]) rfl ⟨rfl, HBR.out⟩
    | some y =>
      have V2 := Lib.hid (fun W => vsome hy W)
      have hz := lit_is_zero hy
      by_cases h0 : y = 0
      · have e : Ra.makeS n d = none := by unfold Ra.makeS; rw [hx, hy]; exact if_neg (fun k => k.2 h0)
        rw [e]
        rw [decide_eq_true h0] at hz
        clear hx hy e h0
        go_enter Tryz.func27, Tryz.ntmps27
        go_wp2_with fail
        with_reducible refine Calls.mono (V1.out _) ?_
        rintro e w' ⟨rfl, rfl⟩
        go_wp2_with fail
        with_reducible refine Calls.mono (V2.out _) ?_
        rintro e w' ⟨rfl, rfl⟩
        go_wp2_with fail
        refine bodyPost_ret (v := .tuple #[.agg #[.string ⟨#[]⟩, .string ⟨#[]⟩], .int .i64 40]) (by first | (simp [results, Tryz.results27, go_sem]; done) | simp [results, Tryz.results27, go_sem, *]) rfl ⟨rfl, HBR.out⟩
      · have e : Ra.makeS n d = some (Ra.redN x y, Ra.redD x y) := by unfold Ra.makeS; rw [hx, hy]; exact Ra.redO_is trivial h0
        rw [e]
        rw [decide_eq_false h0] at hz
        have CR := Lib.hid (fun W T => reduce_any x y (In.num_some hx).2 (In.num_some hy).2 h0 W T)
        rw [← (In.num_some hx).1, ← (In.num_some hy).1] at CR
        show Calls _ _ _ w fun e w' => e = .returned (.tuple #[ratV (In.txt (Ra.redN x y), In.txt (Ra.redD x y)), .int .i64 0]) ∧ Below w.heap.size w w'
        generalize In.txt (Ra.redN x y) = u1 at *
        generalize In.txt (Ra.redD x y) = u2 at *
        clear hx hy e h0
        go_enter Tryz.func27, Tryz.ntmps27
        go_wp2_with fail
        with_reducible refine Calls.mono (V1.out _) ?_
        rintro e w' ⟨rfl, rfl⟩
        go_wp2_with fail
        with_reducible refine Calls.mono (V2.out _) ?_
        rintro e w' ⟨rfl, rfl⟩
        go_wp2_with fail
        with_reducible refine Calls.mono (CR.out _ (TabI.next HT.out ((Below.refl w.heap.size w).alloc (Nat.le_refl _) _))) ?_
        rintro e w2 ⟨rfl, hb⟩
        obtain ⟨b0, hb0⟩ : ∃ x, x = w.heap.size := ⟨_, rfl⟩
        have HX := Lib.hid (show Row w2 b0 23 [.string ⟨#[]⟩, .string ⟨#[]⟩] ∧ Below w.heap.size w w2 ∧ w.heap.size ≤ b0 from by rw [hb0]; exact ⟨HROW.out.next hb, Below.andThen HBR.out hb, Nat.le_refl _⟩)
        rw [← hb0]
        have r0 := (HX.out.1.cell 0).trans (show _ = some (Value.string ⟨#[]⟩) from rfl)
        have r1 := (HX.out.1.cell 1).trans (show _ = some (Value.string ⟨#[]⟩) from rfl)
        have f0 := HX.out.1.frozen 0
        have f1 := HX.out.1.frozen 1
        have lr := HX.out.1.lt
        clear hb hb0
        go_wp2_with fail
        refine bodyPost_ret (v := .tuple #[ratV (u1, u2), .int .i64 0]) (by first | (simp [results, Tryz.results27, go_sem]; done) | simp [results, Tryz.results27, go_sem, *]) rfl ⟨rfl, (HX.out.2.1.setCell (p := ⟨b0, 0, none⟩) HX.out.2.2 _).setCell (p := ⟨b0, 1, none⟩) HX.out.2.2 _⟩
theorem Fit_int {n : Int} (h : -9223372036854775808 ≤ n ∧ n ≤ 9223372036854775807) : In.Fit n := by
  show n.natAbs < 10 ^ 200
  have h1 : n.natAbs < 10 ^ 19 := by omega
  exact Nat.lt_of_lt_of_le h1 (Nat.pow_le_pow_right (by decide) (by decide))
end Go.Proofs.YtlehjmanlccncaaGreatDoor
set_option linter.unusedVariables false
set_option linter.unusedSimpArgs false
namespace Go.Proofs.YtlehjmanlccncaaGreatDoor
open Go.RowKit

/-- the text of a fraction -/
def Ra.prS (a : Option (Int × Int)) : ByteArray :=
  match a with
  | none => ⟨#[]⟩
  | some p => if p.2 = 1 then In.txt p.1 else In.txt p.1 ++ ⟨#[47]⟩ ++ In.txt p.2
theorem num_size {s : ByteArray} {x : Int} (h : In.num s = some x) : s.size ≤ 201 := by
  have hv : In.validL s.data.toList = true := by rw [← In.num_isSome, h]; rfl
  unfold In.validL at hv
  simp only [Bool.and_eq_true, decide_eq_true_eq] at hv
  have h1 := hv.1.1.2
  have h2 : s.data.toList.length = s.size := by rw [Array.length_toList]; rfl
  split at h1
  · rw [List.length_tail] at h1
    omega
  · omega
theorem lit_is_one {b : ByteArray} {y : Int} (h : In.num b = some y) : (b.toList == ([49] : List UInt8)) = decide (y = 1) := by
  obtain ⟨rfl, _⟩ := In.num_some h
  exact one_text y
set_option maxRecDepth 100000 in
set_option maxHeartbeats 4000000 in
theorem Print_r (r : ByteArray × ByteArray) (w : World) (T : TabI w) :
    Calls Tryz.prog 33 #[ratV r] w fun e w' => e = .returned (.string (Ra.prS (Ra.val r))) ∧ Below w.heap.size w w' := by
  have VA := Lib.hid (fun W T => Valid_r r W T)
  have HT := Lib.hid T
  obtain ⟨a1, a2⟩ := r
  clear T
  cases hv : Ra.val (a1, a2) with
  | none =>
    rw [hv] at VA
    clear hv
    go_enter Tryz.func33, Tryz.ntmps33
    go_upto_region 1 with (fail)
    refine wp_named fun w1 hw => ?_
    obtain ⟨b0, hb0⟩ : ∃ x, x = w.heap.size := ⟨_, rfl⟩
    have HR := Lib.hid (show Row w1 b0 23 [.string a1, .string a2] ∧ Below w.heap.size w w1 from by rw [hw, hb0]; exact ⟨Row.new _ _ _, (Below.refl _ _).alloc (Nat.le_refl _) _⟩)
    rw [← hb0]
    have k0 := (HR.out.1.cell 0).trans (show _ = some (Value.string a1) from rfl)
    have k1 := (HR.out.1.cell 1).trans (show _ = some (Value.string a2) from rfl)
    have l0 := HR.out.1.lt
    clear hw hb0
    go_wp2_with fail
    with_reducible refine Calls.mono (VA.out _ (TabI.next HT.out HR.out.2)) ?_
    rintro e w2 ⟨rfl, hb⟩
    have HX := Lib.hid (Below.andThen HR.out.2 hb)
    clear hb k0 k1 l0
    go_wp2_with fail
    go_ret
    exact ⟨rfl, HX.out⟩
  | some p =>
    obtain ⟨hx, -, n1, d1⟩ := Ra.val_some hv
    clear hx
    dsimp only at n1 d1
    have s1 := num_size n1
    have s2 := num_size d1
    have hone := lit_is_one d1
    have e1 := (In.num_some n1).1
    have e2 := (In.num_some d1).1
    have HP := Lib.hid (show Ra.prS (some p) = if p.2 = 1 then a1 else a1 ++ ⟨#[47]⟩ ++ a2 from by unfold Ra.prS; dsimp only; rw [e1, e2])
    rw [hv] at VA
    have g1 : ¬ (9223372036854775807 < a1.size + 1) := by omega
    have g2 : ¬ (9223372036854775807 < a1.size + 1 + a2.size) := by omega
    clear hv n1 d1 e1 e2
    by_cases h1 : p.2 = 1
    · rw [decide_eq_true h1] at hone
      rw [if_pos h1] at HP
      rw [HP.out]
      clear h1 HP
      go_enter Tryz.func33, Tryz.ntmps33
      go_upto_region 1 with (fail)
      refine wp_named fun w1 hw => ?_
      obtain ⟨b0, hb0⟩ : ∃ x, x = w.heap.size := ⟨_, rfl⟩
      have HR := Lib.hid (show Row w1 b0 23 [.string a1, .string a2] ∧ Below w.heap.size w w1 from by rw [hw, hb0]; exact ⟨Row.new _ _ _, (Below.refl _ _).alloc (Nat.le_refl _) _⟩)
      rw [← hb0]
      have k0 := (HR.out.1.cell 0).trans (show _ = some (Value.string a1) from rfl)
      have k1 := (HR.out.1.cell 1).trans (show _ = some (Value.string a2) from rfl)
      have l0 := HR.out.1.lt
      clear hw hb0
      go_wp2_with fail
      with_reducible refine Calls.mono (VA.out _ (TabI.next HT.out HR.out.2)) ?_
      rintro e w2 ⟨rfl, hb⟩
      have HX := Lib.hid (And.intro (HR.out.1.next hb) (Below.andThen HR.out.2 hb))
      clear hb k0 k1 l0
      have k0 := (HX.out.1.cell 0).trans (show _ = some (Value.string a1) from rfl)
      have k1 := (HX.out.1.cell 1).trans (show _ = some (Value.string a2) from rfl)
      have l0 := HX.out.1.lt
      go_wp2_with fail
      go_ret
      exact ⟨rfl, HX.out.2⟩
    · rw [decide_eq_false h1] at hone
      rw [if_neg h1] at HP
      rw [HP.out]
      clear h1 HP
      go_enter Tryz.func33, Tryz.ntmps33
      go_upto_region 1 with (fail)
      refine wp_named fun w1 hw => ?_
      obtain ⟨b0, hb0⟩ : ∃ x, x = w.heap.size := ⟨_, rfl⟩
      have HR := Lib.hid (show Row w1 b0 23 [.string a1, .string a2] ∧ Below w.heap.size w w1 from by rw [hw, hb0]; exact ⟨Row.new _ _ _, (Below.refl _ _).alloc (Nat.le_refl _) _⟩)
      rw [← hb0]
      have k0 := (HR.out.1.cell 0).trans (show _ = some (Value.string a1) from rfl)
      have k1 := (HR.out.1.cell 1).trans (show _ = some (Value.string a2) from rfl)
      have l0 := HR.out.1.lt
      clear hw hb0
      go_wp2_with fail
      with_reducible refine Calls.mono (VA.out _ (TabI.next HT.out HR.out.2)) ?_
      rintro e w2 ⟨rfl, hb⟩
      have HX := Lib.hid (And.intro (HR.out.1.next hb) (Below.andThen HR.out.2 hb))
      clear hb k0 k1 l0
      have k0 := (HX.out.1.cell 0).trans (show _ = some (Value.string a1) from rfl)
      have k1 := (HX.out.1.cell 1).trans (show _ = some (Value.string a2) from rfl)
      have l0 := HX.out.1.lt
      go_wp2_with fail
      go_ret
      exact ⟨rfl, HX.out.2⟩
end Go.Proofs.YtlehjmanlccncaaGreatDoor
set_option linter.unusedVariables false
set_option linter.unusedSimpArgs false
namespace Go.Proofs.YtlehjmanlccncaaGreatDoor
open Go.RowKit

/-- what a world must hold: the table of powers, and how long a string may be that is searched -/
structure RW (w : World) : Prop where
  tab : TabI w
  max : ∃ m, w.cell? ⟨0, 0, none⟩ = some (.int .i64 m)
theorem RW.next {w w' : World} (h : RW w) (hb : Below w.heap.size w w') : RW w' := by
  obtain ⟨m, hm⟩ := h.max
  exact ⟨h.tab.next hb, m, (hb.cell (p := ⟨0, 0, none⟩) (World.block_lt_of_cell? w _ hm)).trans hm⟩
theorem Row.two {w : World} {b : Nat} {t : TypeId} {v0 v1 : Value} (h : Row w b t [v0, v1]) : w.cell? ⟨b, 0, none⟩ = some v0 ∧ w.cell? ⟨b, 1, none⟩ = some v1 := ⟨h.cell 0, h.cell 1⟩
theorem block_lt {w : World} {b : Nat} {O : Obj} (h : w.heap[b]? = some O) : b < w.heap.size := (Array.getElem?_eq_some_iff.1 h).1
theorem calls_named {P : Program} {f : FuncId} {args : Array Value} {w : World} {Q : Ending → World → Prop} (h : ∀ W, W = w → Calls P f args W Q) : Calls P f args w Q := h w rfl

namespace Ra
/-- the two texts of a fraction's text -/
def partN (s : ByteArray) : ByteArray := ⟨(Lib.cut s.data.toList [47]).1.toArray⟩
def partD (s : ByteArray) : ByteArray := ⟨(Lib.cut s.data.toList [47]).2.1.toArray⟩
def partF (s : ByteArray) : Bool := (Lib.cut s.data.toList [47]).2.2
def partsS (s : ByteArray) : ByteArray × ByteArray := (partN s, if partF s = true then partD s else ⟨#[49]⟩)
def parseS (s : ByteArray) : Option (Int × Int) := if s.size ≠ 0 ∧ prS (val (partsS s)) = s then val (partsS s) else none
theorem parseS_ok (s : ByteArray) : OkO (parseS s) := by
  unfold parseS
  split
  · exact val_ok _
  · intro p h; cases h
theorem parse_hit {s : ByteArray} (h0 : s.size ≠ 0) (h : prS (val (partsS s)) = s) : resV (parseS s) = .tuple #[ratV (partsS s), .int .i64 0] := by
  have e : parseS s = val (partsS s) := if_pos ⟨h0, h⟩
  rw [e]
  cases hv : val (partsS s) with
  | none => rw [hv] at h; rw [← h] at h0; exact absurd rfl h0
  | some p =>
    rw [(val_some hv).1]
    rfl
theorem parse_miss {s : ByteArray} (h : s.size = 0 ∨ prS (val (partsS s)) ≠ s) : parseS s = none := by
  refine if_neg fun k => ?_
  rcases h with h | h
  · exact k.1 h
  · exact h k.2
end Ra
theorem Cut_r (s : ByteArray) (w : World) (T : RW w) (hs : s.size < 4294967281) :
    Calls Tryz.prog 63 #[.string s, .string ⟨#[47]⟩] w fun e w' => e = .returned (.tuple #[.string (Ra.partN s), .string (Ra.partD s), .bool (Ra.partF s)]) ∧ Below w.heap.size w w' := by
  obtain ⟨m, hm⟩ := T.max
  refine (Tryz.strings_Cut s ⟨#[47]⟩ m w hs hm).mono ?_
  rintro e w' ⟨rfl, n, rfl⟩
  exact ⟨rfl, below_drewN (Below.refl _ _) n⟩
theorem bytes_eq (x y : ByteArray) : (x.toList == y.toList) = decide (x = y) := by
  rw [Bool.eq_iff_iff]
  simp only [beq_iff_eq, decide_eq_true_eq]
  rw [ByteArray.toList_eq, ByteArray.toList_eq]
  exact ⟨fun h => ba_ext h, fun h => by rw [h]⟩
theorem bytes_nil (x : ByteArray) : (x.toList == ([] : List UInt8)) = decide (x.size = 0) := by
  rw [show ([] : List UInt8) = (⟨#[]⟩ : ByteArray).toList by rw [ByteArray.toList_eq], bytes_eq]
  exact decide_eq_decide.2 ⟨fun h => by rw [h]; rfl, fun h => ByteArray.size_eq_zero_iff.1 h⟩
set_option maxRecDepth 100000 in
set_option maxHeartbeats 4000000 in
theorem Parse_r (s : ByteArray) (w : World) (T : RW w) (hs : s.size < 4294967281) :
    Calls Tryz.prog 34 #[.string s] w fun e w' => e = .returned (resV (Ra.parseS s)) ∧ Below w.heap.size w w' := by
  have CC := Lib.hid (fun W T => Cut_r s W T hs)
  have CP := Lib.hid (fun W (T : RW W) => Print_r (Ra.partsS s) W T.tab)
  have HT := Lib.hid T
  have key : ((s.toList == ([] : List UInt8)) = true ∧ resV (Ra.parseS s) = .tuple #[ratV (⟨#[]⟩, ⟨#[]⟩), .int .i64 40]) ∨ ((s.toList == ([] : List UInt8)) = false ∧ ∃ P b, Ra.prS (Ra.val (Ra.partsS s)) = P ∧ (P.toList == s.toList) = b ∧ resV (Ra.parseS s) = if b = true then .tuple #[ratV (Ra.partsS s), .int .i64 0] else .tuple #[ratV (⟨#[]⟩, ⟨#[]⟩), .int .i64 40]) := by
    rw [bytes_nil]
    by_cases h : s.size = 0
    · exact .inl ⟨decide_eq_true h, by rw [Ra.parse_miss (.inl h)]; rfl⟩
    · refine .inr ⟨decide_eq_false h, _, _, rfl, bytes_eq _ _, ?_⟩
      by_cases h2 : Ra.prS (Ra.val (Ra.partsS s)) = s
      · rw [decide_eq_true h2, if_pos rfl]
        exact Ra.parse_hit h h2
      · rw [decide_eq_false h2, if_neg (by decide), Ra.parse_miss (.inr h2)]
        rfl
  have KEY := Lib.hid key
  have HP := Lib.hid (show Ra.partsS s = (Ra.partN s, if Ra.partF s = true then Ra.partD s else ⟨#[49]⟩) from rfl)
  clear T hs key
  generalize Ra.partsS s = rr at *
  generalize Ra.partN s = N at *
  generalize Ra.partD s = D at *
  generalize Ra.partF s = F at *
  generalize resV (Ra.parseS s) = R at *
  go_enter Tryz.func34, Tryz.ntmps34
  go_upto_region 1 with (fail)
  refine wp_named fun w1 hw => ?_
  obtain ⟨b0, hb0⟩ : ∃ x, x = w.heap.size := ⟨_, rfl⟩
  have HR := Lib.hid (show Row w1 b0 23 [.string ⟨#[]⟩, .string ⟨#[]⟩] ∧ Below w.heap.size w w1 ∧ w.heap.size ≤ b0 from by rw [hw, hb0]; exact ⟨Row.new _ _ _, (Below.refl _ _).alloc (Nat.le_refl _) _, Nat.le_refl _⟩)
  rw [← hb0]
  clear hw hb0
  go_upto_region 2 with (with_reducible refine Calls.mono (CC.out _ (RW.next HT.out HR.out.2.1)) ?_; rintro e w2 ⟨rfl, hb⟩)
  have Z := Lib.hid (HR.out.1.next hb)
  have BB := Lib.hid (Below.andThen HR.out.2.1 hb)
  have HL := Lib.hid HR.out.2.2
  replace HT := Lib.hid (HT.out.next BB.out)
  clear hb HR
  cases F
  · rw [if_neg (by decide)] at HP
    have HP := HP.out
    subst HP
    go_upto_region 5 with (fail)
    refine wp_named fun w3 hq => ?_
    obtain ⟨bA, ebA⟩ : ∃ b, b = w2.heap.size := ⟨_, rfl⟩
    have A := Lib.hid (show Row w3 bA 23 [.string N, .string ⟨#[49]⟩] from by rw [hq, ebA]; first | exact Row.new _ _ _ | exact ((Row.new w2 23 [.string ⟨#[]⟩, .string ⟨#[]⟩]).set 0 (.string N)).set 1 (.string ⟨#[49]⟩))
    have hb : Below w2.heap.size w2 w3 := by rw [hq]; first | exact (Below.refl _ _).alloc (Nat.le_refl _) _ | exact (((Below.refl _ _).alloc (Nat.le_refl _) _).setCell (p := ⟨w2.heap.size, 0, none⟩) (Nat.le_refl _) _).setCell (p := ⟨w2.heap.size, 1, none⟩) (Nat.le_refl _) _
    replace HT := Lib.hid (HT.out.next hb)
    replace Z := Lib.hid (Z.out.next hb)
    replace BB := Lib.hid (Below.andThen BB.out hb)
    rw [← ebA]
    clear hq hb ebA
    rcases KEY.out with ⟨k1, k2⟩ | ⟨k1, P, b, kp, k2, k3⟩
    · subst k2
      clear KEY CP CC
      obtain ⟨cZ0, cZ1⟩ := Z.out.two
      have lZ := Z.out.lt
      have f0 := Z.out.frozen 0
      have f1 := Z.out.frozen 1
      go_wp2_with fail
      refine bodyPost_ret (v := .tuple #[ratV (⟨#[]⟩, ⟨#[]⟩), .int .i64 40]) (by first | (simp [results, Tryz.results34, go_sem]; done) | simp [results, Tryz.results34, go_sem, *]) rfl ⟨rfl, (BB.out.setCell (p := ⟨b0, 0, none⟩) HL.out _).setCell (p := ⟨b0, 1, none⟩) HL.out _⟩
    · rw [kp] at CP
      clear kp KEY CC
      cases b
      · rw [if_neg (by decide)] at k3
        subst k3
        obtain ⟨cA0, cA1⟩ := A.out.two
        have lA := A.out.lt
        go_wp2_with fail
        with_reducible refine Calls.mono (CP.out _ HT.out) ?_
        rintro e w4 ⟨rfl, hb⟩
        replace Z := Lib.hid (Z.out.next hb)
        replace BB := Lib.hid (Below.andThen BB.out hb)
        clear cA0 cA1 lA
        clear hb
        obtain ⟨cZ0, cZ1⟩ := Z.out.two
        have lZ := Z.out.lt
        have f0 := Z.out.frozen 0
        have f1 := Z.out.frozen 1
        go_wp2_with fail
        refine bodyPost_ret (v := .tuple #[ratV (⟨#[]⟩, ⟨#[]⟩), .int .i64 40]) (by first | (simp [results, Tryz.results34, go_sem]; done) | simp [results, Tryz.results34, go_sem, *]) rfl ⟨rfl, (BB.out.setCell (p := ⟨b0, 0, none⟩) HL.out _).setCell (p := ⟨b0, 1, none⟩) HL.out _⟩
      · rw [if_pos rfl] at k3
        subst k3
        obtain ⟨cA0, cA1⟩ := A.out.two
        have lA := A.out.lt
        go_wp2_with fail
        with_reducible refine Calls.mono (CP.out _ HT.out) ?_
        rintro e w4 ⟨rfl, hb⟩
        replace Z := Lib.hid (Z.out.next hb)
        replace A := Lib.hid (A.out.next hb)
        replace BB := Lib.hid (Below.andThen BB.out hb)
        clear cA0 cA1 lA
        clear hb
        obtain ⟨cZ0, cZ1⟩ := Z.out.two
        have lZ := Z.out.lt
        obtain ⟨cA0, cA1⟩ := A.out.two
        have lA := A.out.lt
        have f0 := Z.out.frozen 0
        have f1 := Z.out.frozen 1
        go_wp2_with fail
        refine bodyPost_ret (v := .tuple #[ratV (N, ⟨#[49]⟩), .int .i64 0]) (by first | (simp [results, Tryz.results34, go_sem]; done) | simp [results, Tryz.results34, go_sem, *]) rfl ⟨rfl, (BB.out.setCell (p := ⟨b0, 0, none⟩) HL.out _).setCell (p := ⟨b0, 1, none⟩) HL.out _⟩
  · rw [if_pos rfl] at HP
    have HP := HP.out
    subst HP
    go_upto_region 5 with (fail)
    refine wp_named fun w3 hq => ?_
    obtain ⟨bA, ebA⟩ : ∃ b, b = w2.heap.size := ⟨_, rfl⟩
    have A := Lib.hid (show Row w3 bA 23 [.string N, .string D] from by rw [hq, ebA]; first | exact Row.new _ _ _ | exact ((Row.new w2 23 [.string ⟨#[]⟩, .string ⟨#[]⟩]).set 0 (.string N)).set 1 (.string D))
    have hb : Below w2.heap.size w2 w3 := by rw [hq]; first | exact (Below.refl _ _).alloc (Nat.le_refl _) _ | exact (((Below.refl _ _).alloc (Nat.le_refl _) _).setCell (p := ⟨w2.heap.size, 0, none⟩) (Nat.le_refl _) _).setCell (p := ⟨w2.heap.size, 1, none⟩) (Nat.le_refl _) _
    replace HT := Lib.hid (HT.out.next hb)
    replace Z := Lib.hid (Z.out.next hb)
    replace BB := Lib.hid (Below.andThen BB.out hb)
    rw [← ebA]
    clear hq hb ebA
    rcases KEY.out with ⟨k1, k2⟩ | ⟨k1, P, b, kp, k2, k3⟩
    · subst k2
      clear KEY CP CC
      obtain ⟨cZ0, cZ1⟩ := Z.out.two
      have lZ := Z.out.lt
      have f0 := Z.out.frozen 0
      have f1 := Z.out.frozen 1
      go_wp2_with fail
      refine bodyPost_ret (v := .tuple #[ratV (⟨#[]⟩, ⟨#[]⟩), .int .i64 40]) (by first | (simp [results, Tryz.results34, go_sem]; done) | simp [results, Tryz.results34, go_sem, *]) rfl ⟨rfl, (BB.out.setCell (p := ⟨b0, 0, none⟩) HL.out _).setCell (p := ⟨b0, 1, none⟩) HL.out _⟩
    · rw [kp] at CP
      clear kp KEY CC
      cases b
      · rw [if_neg (by decide)] at k3
        subst k3
        obtain ⟨cA0, cA1⟩ := A.out.two
        have lA := A.out.lt
        go_wp2_with fail
        with_reducible refine Calls.mono (CP.out _ HT.out) ?_
        rintro e w4 ⟨rfl, hb⟩
        replace Z := Lib.hid (Z.out.next hb)
        replace BB := Lib.hid (Below.andThen BB.out hb)
        clear cA0 cA1 lA
        clear hb
        obtain ⟨cZ0, cZ1⟩ := Z.out.two
        have lZ := Z.out.lt
        have f0 := Z.out.frozen 0
        have f1 := Z.out.frozen 1
        go_wp2_with fail
        refine bodyPost_ret (v := .tuple #[ratV (⟨#[]⟩, ⟨#[]⟩), .int .i64 40]) (by first | (simp [results, Tryz.results34, go_sem]; done) | simp [results, Tryz.results34, go_sem, *]) rfl ⟨rfl, (BB.out.setCell (p := ⟨b0, 0, none⟩) HL.out _).setCell (p := ⟨b0, 1, none⟩) HL.out _⟩
      · rw [if_pos rfl] at k3
        subst k3
        obtain ⟨cA0, cA1⟩ := A.out.two
        have lA := A.out.lt
        go_wp2_with fail
        with_reducible refine Calls.mono (CP.out _ HT.out) ?_
        rintro e w4 ⟨rfl, hb⟩
        replace Z := Lib.hid (Z.out.next hb)
        replace A := Lib.hid (A.out.next hb)
        replace BB := Lib.hid (Below.andThen BB.out hb)
        clear cA0 cA1 lA
        clear hb
        obtain ⟨cZ0, cZ1⟩ := Z.out.two
        have lZ := Z.out.lt
        obtain ⟨cA0, cA1⟩ := A.out.two
        have lA := A.out.lt
        have f0 := Z.out.frozen 0
        have f1 := Z.out.frozen 1
        go_wp2_with fail
        refine bodyPost_ret (v := .tuple #[ratV (N, D), .int .i64 0]) (by first | (simp [results, Tryz.results34, go_sem]; done) | simp [results, Tryz.results34, go_sem, *]) rfl ⟨rfl, (BB.out.setCell (p := ⟨b0, 0, none⟩) HL.out _).setCell (p := ⟨b0, 1, none⟩) HL.out _⟩
end Go.Proofs.YtlehjmanlccncaaGreatDoor
