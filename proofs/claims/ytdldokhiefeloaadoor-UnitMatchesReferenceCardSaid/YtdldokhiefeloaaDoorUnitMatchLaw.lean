/- For every input, UnitMatchesReference returns true and leaves its arguments as they were; the table of units holds what the program's text lays. -/
import Derived.Test.YtdldokhiefeloaaDoorUnitMatchW
import Derived.Test.YtdldokhiefeloaaDoorUnitR6
import Derived.Test.YtdldokhiefeloaaDoorUnitFrame
namespace Go.Proofs.YtdldokhiefeloaaDoor
open Go.RowKit Go.ChangeShapes Go.WideShapes Go.ChangeAt

theorem unitMatch_any (a0 a1 a2 b0 b1 b2 x0 x1 x2 y0 y1 y2 r0 r1 z0 z1 to_ sz nn dd : Int) (w : World) (T : Tab w)
    (_ : -9223372036854775808 ≤ a0 ∧ a0 ≤ 9223372036854775807)
    (_ : -9223372036854775808 ≤ a1 ∧ a1 ≤ 9223372036854775807)
    (_ : -9223372036854775808 ≤ a2 ∧ a2 ≤ 9223372036854775807)
    (_ : -9223372036854775808 ≤ b0 ∧ b0 ≤ 9223372036854775807)
    (_ : -9223372036854775808 ≤ b1 ∧ b1 ≤ 9223372036854775807)
    (_ : -9223372036854775808 ≤ b2 ∧ b2 ≤ 9223372036854775807)
    (hx0 : -9223372036854775808 ≤ x0 ∧ x0 ≤ 9223372036854775807)
    (hx1 : -9223372036854775808 ≤ x1 ∧ x1 ≤ 9223372036854775807)
    (hx2 : -9223372036854775808 ≤ x2 ∧ x2 ≤ 9223372036854775807)
    (hy0 : -9223372036854775808 ≤ y0 ∧ y0 ≤ 9223372036854775807)
    (hy1 : -9223372036854775808 ≤ y1 ∧ y1 ≤ 9223372036854775807)
    (hy2 : -9223372036854775808 ≤ y2 ∧ y2 ≤ 9223372036854775807)
    (_ : -9223372036854775808 ≤ r0 ∧ r0 ≤ 9223372036854775807) (_ : -9223372036854775808 ≤ r1 ∧ r1 ≤ 9223372036854775807)
    (hz0 : -9223372036854775808 ≤ z0 ∧ z0 ≤ 9223372036854775807)
    (hz1 : -9223372036854775808 ≤ z1 ∧ z1 ≤ 9223372036854775807)
    (hto_ : -9223372036854775808 ≤ to_ ∧ to_ ≤ 9223372036854775807)
    (hsz : -9223372036854775808 ≤ sz ∧ sz ≤ 9223372036854775807)
    (hnn : -9223372036854775808 ≤ nn ∧ nn ≤ 9223372036854775807)
    (hdd : -9223372036854775808 ≤ dd ∧ dd ≤ 9223372036854775807)
    : Calls Tryd.prog 3 #[.agg #[.int .i64 a0, .int .i64 a1, .int .i64 a2], .agg #[.int .i64 b0, .int .i64 b1, .int .i64 b2], .agg #[.int .i64 x0, .int .i64 x1, .int .i64 x2], .agg #[.int .i64 y0, .int .i64 y1, .int .i64 y2], .agg #[.int .i64 r0, .int .i64 r1], .agg #[.int .i64 z0, .int .i64 z1], .int .i64 to_, .int .i64 sz, .int .i64 nn, .int .i64 dd] w fun r w' => r = .returned (.bool true) ∧ Below w.heap.size w w' := by
  have q1 := pick_bd to_ 7 (by omega)
  have q2 := pick_bd dd 1000 (by omega)
  exact match_walk a0 a1 a2 b0 b1 b2 x0 x1 x2 y0 y1 y2 r0 r1 z0 z1 to_ sz nn dd (madeLo x0 x1 x2) (madeHi x0 x1 x2) (madeU x2) (madeLo y0 y1 y2) (madeHi y0 y1 y2) (madeU y2) (rateZ z0) (rateZ z1) (pickZ to_ 7) (stepZ sz) (pickZ nn 1000) (pickZ dd 1000) w T
    (fun w T => sane_any w T) (fun w => made_any x0 x1 x2 w hx0 hx1 hx2) (fun w => made_any y0 y1 y2 w hy0 hy1 hy2) (fun w => madeRates_any z0 z1 w hz0 hz1)
    (fun w => same_below (pick_any to_ 7 w (by omega) hto_.1 hto_.2)) ⟨q1.1, by omega⟩ (fun w => step_any sz w hsz.1 hsz.2) (fun w => same_below (pick_any nn 1000 w (by omega) hnn.1 hnn.2)) (fun w => same_below (pick_any dd 1000 w (by omega) hdd.1 hdd.2)) ⟨q2.1, by omega⟩
    (fun p0 p1 p2 q0 q1 q2 => ⟨_, _, _, _, fun w T => add_any p0 p1 p2 q0 q1 q2 w T, fun w => refAdd_any p0 p1 p2 q0 q1 q2 w⟩)
    (fun p0 p1 p2 q0 q1 q2 => ⟨_, _, _, _, fun w T => meet_any p0 p1 p2 q0 q1 q2 w T, fun w => refMeet_any p0 p1 p2 q0 q1 q2 w⟩)
    (fun p0 p1 p2 q0 q1 q2 => ⟨_, fun w T => contains_any p0 p1 p2 q0 q1 q2 w T, fun w => containsR_any p0 p1 p2 q0 q1 q2 w⟩)
    (fun p0 p1 p2 u q0 q1 => ⟨_, _, _, _, fun w T => convert_any p0 p1 p2 u q0 q1 w T, fun w => refConvert_any p0 p1 p2 u q0 q1 w⟩)
    (fun q0 q1 => ⟨_, fun w _ => rates_any q0 q1 w, fun w => ratesR_any q0 q1 w⟩)
    (fun u => ⟨_, fun w T => same_below (kind_any u w T), fun w => same_below (kindR_any u w)⟩)
    (fun p0 p1 p2 u => ⟨_, _, _, _, fun w T => coarse_any p0 p1 p2 u w T, fun w => refCoarse_any p0 p1 p2 u w⟩)
    (fun p0 p1 p2 u v => ⟨_, _, _, _, fun w T => share_any p0 p1 p2 u v w T, fun w => refShare_any p0 p1 p2 u v w⟩)
    (fun p0 p1 p2 => ⟨_, fun w T => valid_any p0 p1 p2 w T, fun w => validR_any p0 p1 p2 w⟩)

namespace unitMatchesReference
theorem flat0 : leafsOf Tryd.prog 5 23 = some [some (some .i64), some (some .i64), some (some .i64)] := by kernel_rfl
theorem flat1 : leafsOf Tryd.prog 5 23 = some [some (some .i64), some (some .i64), some (some .i64)] := by kernel_rfl
theorem flat2 : leafsOf Tryd.prog 5 24 = some [some (some .i64), some (some .i64), some (some .i64)] := by kernel_rfl
theorem flat3 : leafsOf Tryd.prog 5 24 = some [some (some .i64), some (some .i64), some (some .i64)] := by kernel_rfl
theorem flat4 : leafsOf Tryd.prog 5 26 = some [some (some .i64), some (some .i64)] := by kernel_rfl
theorem flat5 : leafsOf Tryd.prog 5 27 = some [some (some .i64), some (some .i64)] := by kernel_rfl
set_option maxRecDepth 100000 in
theorem contract (H : Type) (enc : TypeId × Value → H) (W : World) (base : Nat) (args : Array Value) (ds gs : List (DataW H)) (before : List MemPlace)
    (hval : ∀ (j : Nat) t v, Tryd.f3.params[j]? = some t → args[j]? = some v → Value.okWide Tryd.prog W .any base t v)
    (hW : DataW.Whole enc Tryd.prog Tryd.f3.params.toList Rows.unitMatchesReferenceSpec.vars false W args.toList ds gs before) (hL : laidMetH Tryd.prog Rows.unitMatchesReferenceRow.laid W) :
    Calls Tryd.prog 3 args W fun e W' => ∃ v, e = .returned v ∧ Rows.unitMatchesReferenceSpec.post enc Tryd.prog Tryd.f3 false true false false W args v W' := by
  have hW' := hW
  obtain ⟨p, q, hA0, hV, rfl, hfz, hnd⟩ := hW
  have hA : DataW.TrodAll enc Tryd.prog W 0 (fun _ => true) true Tryd.f3.params.toList args.toList ds p := hA0
  rw [Tryd.params3] at hA hval
  obtain ⟨v0, vs0, d0, ds0, p0, q0, hargs, rfl, rfl, h0, r0⟩ := trodAll_cons hA
  obtain ⟨v1, vs1, d1, ds1, p1, q1, rfl, rfl, rfl, h1, r1⟩ := trodAll_cons r0
  obtain ⟨v2, vs2, d2, ds2, p2, q2, rfl, rfl, rfl, h2, r2⟩ := trodAll_cons r1
  obtain ⟨v3, vs3, d3, ds3, p3, q3, rfl, rfl, rfl, h3, r3⟩ := trodAll_cons r2
  obtain ⟨v4, vs4, d4, ds4, p4, q4, rfl, rfl, rfl, h4, r4⟩ := trodAll_cons r3
  obtain ⟨v5, vs5, d5, ds5, p5, q5, rfl, rfl, rfl, h5, r5⟩ := trodAll_cons r4
  obtain ⟨v6, vs6, d6, ds6, p6, q6, rfl, rfl, rfl, h6, r6⟩ := trodAll_cons r5
  obtain ⟨v7, vs7, d7, ds7, p7, q7, rfl, rfl, rfl, h7, r7⟩ := trodAll_cons r6
  obtain ⟨v8, vs8, d8, ds8, p8, q8, rfl, rfl, rfl, h8, r8⟩ := trodAll_cons r7
  obtain ⟨v9, vs9, d9, ds9, p9, q9, rfl, rfl, rfl, h9, r9⟩ := trodAll_cons r8
  obtain ⟨rfl, rfl, rfl⟩ := trodAll_nil r9
  obtain rfl : args = #[v0, v1, v2, v3, v4, v5, v6, v7, v8, v9] := by cases args; simp_all
  obtain ⟨cs0, rfl, c0x0, rs0x0, rfl, ⟨a0, rfl, k0⟩, c0x1, rs0x1, rfl, ⟨a1, rfl, k1⟩, c0x2, rs0x2, rfl, ⟨a2, rfl, k2⟩, rfl⟩ := open_agg 5 flat0 (by kernel_rfl) (hval 0 _ _ rfl rfl) h0
  obtain ⟨cs1, rfl, c1x0, rs1x0, rfl, ⟨a3, rfl, k3⟩, c1x1, rs1x1, rfl, ⟨a4, rfl, k4⟩, c1x2, rs1x2, rfl, ⟨a5, rfl, k5⟩, rfl⟩ := open_agg 5 flat1 (by kernel_rfl) (hval 1 _ _ rfl rfl) h1
  obtain ⟨cs2, rfl, c2x0, rs2x0, rfl, ⟨a6, rfl, k6⟩, c2x1, rs2x1, rfl, ⟨a7, rfl, k7⟩, c2x2, rs2x2, rfl, ⟨a8, rfl, k8⟩, rfl⟩ := open_agg 5 flat2 (by kernel_rfl) (hval 2 _ _ rfl rfl) h2
  obtain ⟨cs3, rfl, c3x0, rs3x0, rfl, ⟨a9, rfl, k9⟩, c3x1, rs3x1, rfl, ⟨a10, rfl, k10⟩, c3x2, rs3x2, rfl, ⟨a11, rfl, k11⟩, rfl⟩ := open_agg 5 flat3 (by kernel_rfl) (hval 3 _ _ rfl rfl) h3
  obtain ⟨cs4, rfl, c4x0, rs4x0, rfl, ⟨a12, rfl, k12⟩, c4x1, rs4x1, rfl, ⟨a13, rfl, k13⟩, rfl⟩ := open_agg 5 flat4 (by kernel_rfl) (hval 4 _ _ rfl rfl) h4
  obtain ⟨cs5, rfl, c5x0, rs5x0, rfl, ⟨a14, rfl, k14⟩, c5x1, rs5x1, rfl, ⟨a15, rfl, k15⟩, rfl⟩ := open_agg 5 flat5 (by kernel_rfl) (hval 5 _ _ rfl rfl) h5
  obtain ⟨a16, rfl, rfl, rfl, k16⟩ := open_int Tryd.underlying3 (hval 6 _ _ rfl rfl) h6
  obtain ⟨a17, rfl, rfl, rfl, k17⟩ := open_int Tryd.underlying3 (hval 7 _ _ rfl rfl) h7
  obtain ⟨a18, rfl, rfl, rfl, k18⟩ := open_int Tryd.underlying3 (hval 8 _ _ rfl rfl) h8
  obtain ⟨a19, rfl, rfl, rfl, k19⟩ := open_int Tryd.underlying3 (hval 9 _ _ rfl rfl) h9
  refine (unitMatch_any a0 a1 a2 a3 a4 a5 a6 a7 a8 a9 a10 a11 a12 a13 a14 a15 a16 a17 a18 a19 W (tab hL) (bd_i64 k0) (bd_i64 k1) (bd_i64 k2) (bd_i64 k3) (bd_i64 k4) (bd_i64 k5) (bd_i64 k6) (bd_i64 k7) (bd_i64 k8) (bd_i64 k9) (bd_i64 k10) (bd_i64 k11) (bd_i64 k12) (bd_i64 k13) (bd_i64 k14) (bd_i64 k15) (bd_i64 k16) (bd_i64 k17) (bd_i64 k18) (bd_i64 k19)).mono fun e W' ⟨he, hb⟩ => ?_
  subst he
  obtain ⟨rfl, _⟩ := trodVars_none hV
  exact ⟨_, rfl, law_post laidOut (by kernel_rfl) rfl (by kernel_rfl) Tryd.underlying4 hW' rfl hb⟩

def args0 : Array Value := #[.agg #[.int .i64 0, .int .i64 0, .int .i64 0], .agg #[.int .i64 0, .int .i64 0, .int .i64 0], .agg #[.int .i64 0, .int .i64 0, .int .i64 0], .agg #[.int .i64 0, .int .i64 0, .int .i64 0], .agg #[.int .i64 0, .int .i64 0], .agg #[.int .i64 0, .int .i64 0], .int .i64 0, .int .i64 0, .int .i64 0, .int .i64 0]
theorem laid_met (os : Os) : laidMet Tryd.prog Rows.unitMatchesReferenceRow.laid ((laidWorld os).forCall (fun _ _ => 0) ⟨#[], args0, []⟩).memory :=
  laidMet_of_run' 8 (by kernel_rfl) (by kernel_rfl)
theorem reads (os : Os) {H : Type} (enc : TypeId × Value → H) : ∃ places, DataW.whole enc Tryd.prog ((laidWorld os).forCall (fun _ _ => 0) ⟨#[], args0, []⟩).memory Tryd.f3.params.toList Rows.unitMatchesReferenceSpec.vars false args0.toList 8 = some ([.agg [.lit (.int .i64 0), .lit (.int .i64 0), .lit (.int .i64 0)], .agg [.lit (.int .i64 0), .lit (.int .i64 0), .lit (.int .i64 0)], .agg [.lit (.int .i64 0), .lit (.int .i64 0), .lit (.int .i64 0)], .agg [.lit (.int .i64 0), .lit (.int .i64 0), .lit (.int .i64 0)], .agg [.lit (.int .i64 0), .lit (.int .i64 0)], .agg [.lit (.int .i64 0), .lit (.int .i64 0)], .lit (.int .i64 0), .lit (.int .i64 0), .lit (.int .i64 0), .lit (.int .i64 0)], [], places) :=
  ⟨[], by kernel_rfl⟩

set_option maxRecDepth 100000 in
theorem lifted (os : Os) (started : os.Started) (H : Type) (enc : TypeId × Value → H) (F : Stop.Interp) :
    ReturnsInHanded {} Tryd.checked os 3 .any ((OpenSpec.ofChange Rows.unitMatchesReferenceSpec).preRow enc Tryd.prog Tryd.f3 Rows.unitMatchesReferenceRow.domain false Rows.unitMatchesReferenceRow.laid) (((OpenSpec.ofChange Rows.unitMatchesReferenceSpec).at F).post enc Tryd.prog Tryd.f3 false true false false) := by
  obtain ⟨places, hx⟩ := reads os enc
  refine returnsInHanded_of_row (C := Tryd.checked) (s := OpenSpec.ofChange Rows.unitMatchesReferenceSpec) own started (by kernel_rfl) Tryd.func3
    (witness_row_at (enc := enc) (C := Tryd.checked) false (laidWorld os) args0 rfl (by kernel_rfl) (by kernel_rfl) (by kernel_rfl)
      (OpenSpec.preRow_of_cond 8 hx (by kernel_rfl) (fun k hk => by cases hk) (by kernel_rfl) (laid_met os))) ?_
  intro W base args ds gs before hval hW _ _ _ hL _ _
  exact contract H enc W base args ds gs before hval hW hL

theorem said : Rows.UnitMatchesReferenceSaid :=
  OpenClaim.holds_of_cond 3 Tryd.f3 rfl rfl rfl rfl rfl rfl rfl ⟨rfl, rfl, rfl, rfl, rfl⟩ rfl rfl rfl rfl rfl (by kernel_rfl) Tryd.func3 (by kernel_rfl)
    (of_decide_eq_true (by kernel_rfl)) (by unfold Func.isWrapper; first | (rw [if_pos (by decide +kernel)]; kernel_rfl) | (rw [if_neg (by decide +kernel)]; exact ⟨rfl, rfl⟩))
    (fun os started H enc _ F => by rw [OpenClaim.pre_eq_preRow]; exact lifted os started H enc F)

theorem plain (f : FuncId) (fn : Func) (hf : Tryd.pinned.checked.prog.funcNamed "newswire/newswirelaw05.UnitMatchesReference" = some f) (hfn : Tryd.pinned.checked.prog.funcs[f]? = some fn) :
    false = Tryd.pinned.checked.prog.looks [] ∧ ∀ (j : Nat) t, fn.params[j]? = some t → Tryd.pinned.checked.prog.wantsStandIn t = false := by
  obtain rfl : f = 3 := Option.some.inj ((show Tryd.prog.funcNamed "newswire/newswirelaw05.UnitMatchesReference" = some 3 by kernel_rfl).symm.trans hf) |>.symm
  obtain rfl : fn = Tryd.f3 := (Option.some.inj (Tryd.func3.symm.trans hfn)).symm
  refine ⟨by kernel_rfl, fun j t ht => ?_⟩
  have all : (Tryd.f3.params.toList.all fun t => Tryd.prog.wantsStandIn t == false) = true := by kernel_rfl
  have := List.all_eq_true.1 all t (by rw [← Array.mem_def]; exact Array.mem_of_getElem? ht)
  exact (show Tryd.prog.wantsStandIn t = false by simpa using this)

/-- The statement. -/
theorem card : Rows.UnitMatchesReferenceCardSaid :=
  Claim7.holds_tied_plain_at .later [] _ _ _ _ said (fun _ h => by cases h) (by kernel_rfl) (fun _ h => by cases h) unitMatchesReference_row_tie rfl ⟨rfl, rfl⟩ (by kernel_rfl) rfl plain (by kernel_rfl)
end unitMatchesReference
end Go.Proofs.YtdldokhiefeloaaDoor
