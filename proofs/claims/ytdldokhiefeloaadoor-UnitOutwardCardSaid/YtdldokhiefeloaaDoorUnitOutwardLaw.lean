/- For every input, UnitOutward returns true and leaves its arguments as they were; the table of units holds what the program's text lays. -/
import Derived.Test.YtdldokhiefeloaaDoorUnitOutward
import Derived.Test.YtdldokhiefeloaaDoorUnitFrame
namespace Go.Proofs.YtdldokhiefeloaaDoor
open Go.RowKit Go.ChangeShapes Go.WideShapes Go.ChangeAt

theorem unitOutward_any (x0 x1 x2 z0 z1 : Int) (o : Bool) (sz nn dd : Int) (w : World) (T : Tab w) (a0 : -9223372036854775808 ≤ x0 ∧ x0 ≤ 9223372036854775807) (a1 : -9223372036854775808 ≤ x1 ∧ x1 ≤ 9223372036854775807) (a2 : -9223372036854775808 ≤ x2 ∧ x2 ≤ 9223372036854775807)
    (a3 : -9223372036854775808 ≤ z0 ∧ z0 ≤ 9223372036854775807) (a4 : -9223372036854775808 ≤ z1 ∧ z1 ≤ 9223372036854775807) (a5 : -9223372036854775808 ≤ sz ∧ sz ≤ 9223372036854775807) (a6 : -9223372036854775808 ≤ nn ∧ nn ≤ 9223372036854775807) (a7 : -9223372036854775808 ≤ dd ∧ dd ≤ 9223372036854775807) :
    Calls Tryd.prog 4 #[.agg #[.int .i64 x0, .int .i64 x1, .int .i64 x2], .agg #[.int .i64 z0, .int .i64 z1], .bool o, .int .i64 sz, .int .i64 nn, .int .i64 dd] w fun r w' => r = .returned (.bool true) ∧ Below w.heap.size w w' := by
  have hb := made_bd x0 x1 x2
  have hk : knownB (madeLo x0 x1 x2) (madeHi x0 x1 x2) (madeU x2) = true := (knownB_iff _ _ _).2 (by omega)
  have hr := rates_ok z0 z1
  obtain ⟨⟨n1, n2, d1, d2⟩, hB⟩ := conv_out o hk hr
  have hs := step_cases sz
  have hsb : 1 ≤ stepZ sz ∧ stepZ sz ≤ 10000 := by omega
  have hD := coarse_out hk hs
  have hp := pick_bd nn 1001 (by omega)
  have hq := pick_bd dd 1000 (by omega)
  have hE := share_out (p := pickZ nn 1001) (q := 1 + pickZ dd 1000) hk hp.1 (by omega) (by omega) (by omega)
  refine outward_walk x0 x1 x2 z0 z1 o sz nn dd _ _ _ _ _ (partnerZ (madeU x2) o) _ _ _ _ _ _ (stepZ sz) _ _ _ _ _ _ _ _ _ _ w T (fun w => made_any x0 x1 x2 w a0 a1 a2) (fun w => madeRates_any z0 z1 w a3 a4) (fun w => partner_any (madeU x2) o w hb.2.2.2.1 hb.2.2.2.2)
    (fun w => worthR_any _ _ _ _ w) (fun w T => convert_any _ _ _ _ _ _ w T) (hB.imp id ?_) (fun w => step_any sz w a5.1 a5.2) hsb.1 hsb.2 (fun w T => coarse_any _ _ _ _ w T) (hD.imp id ?_) (fun w => pick_any nn 1001 w (by omega) a6.1 a6.2) hp.1 (by omega)
    (fun w => pick_any dd 1000 w (by omega) a7.1 a7.2) hq.1 (by omega) (fun w T => share_any _ _ _ _ _ w T) (hE.imp id ?_) hb.1 hb.2.1 hb.2.2.1 n1 n2 d1 d2
  · rintro ⟨g1, g2, g3, g4, g5, g6, g7⟩
    exact ⟨g1, g2, fun w => lit_b g7 (closest_any _ _ _ _ _ _ _ w g3 g4 g5 g6 hb.1 (by omega) (by omega) hb.2.2.1 (by omega) n2 d1 d2)⟩
  · rintro ⟨g1, g2, g3, g4, g5, g6, g7, g8, k1, k2, k3, k4, g9⟩
    exact ⟨g1, g2, g3, g4, g5, g6, g7, g8, fun w => lit_b g9 (closest_any _ _ _ _ _ _ _ w k1 k2 k3 k4 hb.1 (by omega) (by omega) hb.2.2.1 (by omega) (by omega) hsb.1 (by omega))⟩
  · rintro ⟨g1, g2, g3, g4, g5, g6, g7⟩
    exact ⟨g1, g2, fun w => lit_b g7 (closest_any _ _ _ _ _ _ _ w g3 g4 g5 g6 hb.1 (by omega) (by omega) hb.2.2.1 hp.1 (by omega) (by omega) (by omega))⟩

namespace unitOutward
theorem flat0 : leafsOf Tryd.prog 5 24 = some [some (some .i64), some (some .i64), some (some .i64)] := by kernel_rfl
theorem flat1 : leafsOf Tryd.prog 5 27 = some [some (some .i64), some (some .i64)] := by kernel_rfl
set_option maxRecDepth 100000 in
theorem contract (H : Type) (enc : TypeId × Value → H) (W : World) (base : Nat) (args : Array Value) (ds gs : List (DataW H)) (before : List MemPlace)
    (hval : ∀ (j : Nat) t v, Tryd.f4.params[j]? = some t → args[j]? = some v → Value.okWide Tryd.prog W .any base t v)
    (hW : DataW.Whole enc Tryd.prog Tryd.f4.params.toList Rows.unitOutwardSpec.vars false W args.toList ds gs before) (hL : laidMetH Tryd.prog Rows.unitOutwardRow.laid W) :
    Calls Tryd.prog 4 args W fun e W' => ∃ v, e = .returned v ∧ Rows.unitOutwardSpec.post enc Tryd.prog Tryd.f4 false true false false W args v W' := by
  have hW' := hW
  obtain ⟨p, q, hA0, hV, rfl, hfz, hnd⟩ := hW
  have hA : DataW.TrodAll enc Tryd.prog W 0 (fun _ => true) true Tryd.f4.params.toList args.toList ds p := hA0
  rw [Tryd.params4] at hA hval
  obtain ⟨v0, vs0, d0, ds0, p0, q0, hargs, rfl, rfl, h0, r0⟩ := trodAll_cons hA
  obtain ⟨v1, vs1, d1, ds1, p1, q1, rfl, rfl, rfl, h1, r1⟩ := trodAll_cons r0
  obtain ⟨v2, vs2, d2, ds2, p2, q2, rfl, rfl, rfl, h2, r2⟩ := trodAll_cons r1
  obtain ⟨v3, vs3, d3, ds3, p3, q3, rfl, rfl, rfl, h3, r3⟩ := trodAll_cons r2
  obtain ⟨v4, vs4, d4, ds4, p4, q4, rfl, rfl, rfl, h4, r4⟩ := trodAll_cons r3
  obtain ⟨v5, vs5, d5, ds5, p5, q5, rfl, rfl, rfl, h5, r5⟩ := trodAll_cons r4
  obtain ⟨rfl, rfl, rfl⟩ := trodAll_nil r5
  obtain rfl : args = #[v0, v1, v2, v3, v4, v5] := by cases args; simp_all
  obtain ⟨cs0, rfl, c0x0, rs0x0, rfl, ⟨a0, rfl, k0⟩, c0x1, rs0x1, rfl, ⟨a1, rfl, k1⟩, c0x2, rs0x2, rfl, ⟨a2, rfl, k2⟩, rfl⟩ := open_agg 5 flat0 (by kernel_rfl) (hval 0 _ _ rfl rfl) h0
  obtain ⟨cs1, rfl, c1x0, rs1x0, rfl, ⟨a3, rfl, k3⟩, c1x1, rs1x1, rfl, ⟨a4, rfl, k4⟩, rfl⟩ := open_agg 5 flat1 (by kernel_rfl) (hval 1 _ _ rfl rfl) h1
  obtain ⟨a5, rfl, rfl, rfl⟩ := open_bool Tryd.underlying4 (hval 2 _ _ rfl rfl) h2
  obtain ⟨a6, rfl, rfl, rfl, k6⟩ := open_int Tryd.underlying3 (hval 3 _ _ rfl rfl) h3
  obtain ⟨a7, rfl, rfl, rfl, k7⟩ := open_int Tryd.underlying3 (hval 4 _ _ rfl rfl) h4
  obtain ⟨a8, rfl, rfl, rfl, k8⟩ := open_int Tryd.underlying3 (hval 5 _ _ rfl rfl) h5
  refine (unitOutward_any a0 a1 a2 a3 a4 a5 a6 a7 a8 W (tab hL) (bd_i64 k0) (bd_i64 k1) (bd_i64 k2) (bd_i64 k3) (bd_i64 k4) (bd_i64 k6) (bd_i64 k7) (bd_i64 k8)).mono fun e W' ⟨he, hb⟩ => ?_
  subst he
  obtain ⟨rfl, _⟩ := trodVars_none hV
  exact ⟨_, rfl, law_post laidOut (by kernel_rfl) rfl (by kernel_rfl) Tryd.underlying4 hW' rfl hb⟩

def args0 : Array Value := #[.agg #[.int .i64 0, .int .i64 0, .int .i64 0], .agg #[.int .i64 0, .int .i64 0], .bool false, .int .i64 0, .int .i64 0, .int .i64 0]
theorem laid_met (os : Os) : laidMet Tryd.prog Rows.unitOutwardRow.laid ((laidWorld os).forCall (fun _ _ => 0) ⟨#[], args0, []⟩).memory :=
  laidMet_of_run' 8 (by kernel_rfl) (by kernel_rfl)
theorem reads (os : Os) {H : Type} (enc : TypeId × Value → H) : ∃ places, DataW.whole enc Tryd.prog ((laidWorld os).forCall (fun _ _ => 0) ⟨#[], args0, []⟩).memory Tryd.f4.params.toList Rows.unitOutwardSpec.vars false args0.toList 8 = some ([.agg [.lit (.int .i64 0), .lit (.int .i64 0), .lit (.int .i64 0)], .agg [.lit (.int .i64 0), .lit (.int .i64 0)], .lit (.bool false), .lit (.int .i64 0), .lit (.int .i64 0), .lit (.int .i64 0)], [], places) :=
  ⟨[], by kernel_rfl⟩

set_option maxRecDepth 100000 in
theorem lifted (os : Os) (started : os.Started) (H : Type) (enc : TypeId × Value → H) (F : Stop.Interp) :
    ReturnsInHanded {} Tryd.checked os 4 .any ((OpenSpec.ofChange Rows.unitOutwardSpec).preRow enc Tryd.prog Tryd.f4 Rows.unitOutwardRow.domain false Rows.unitOutwardRow.laid) (((OpenSpec.ofChange Rows.unitOutwardSpec).at F).post enc Tryd.prog Tryd.f4 false true false false) := by
  obtain ⟨places, hx⟩ := reads os enc
  refine returnsInHanded_of_row (C := Tryd.checked) (s := OpenSpec.ofChange Rows.unitOutwardSpec) own started (by kernel_rfl) Tryd.func4
    (witness_row_at (enc := enc) (C := Tryd.checked) false (laidWorld os) args0 rfl (by kernel_rfl) (by kernel_rfl) (by kernel_rfl)
      (OpenSpec.preRow_of_cond 8 hx (by kernel_rfl) (fun k hk => by cases hk) (by kernel_rfl) (laid_met os))) ?_
  intro W base args ds gs before hval hW _ _ _ hL _ _
  exact contract H enc W base args ds gs before hval hW hL

theorem said : Rows.UnitOutwardSaid :=
  OpenClaim.holds_of_cond 4 Tryd.f4 rfl rfl rfl rfl rfl rfl rfl ⟨rfl, rfl, rfl, rfl, rfl⟩ rfl rfl rfl rfl rfl (by kernel_rfl) Tryd.func4 (by kernel_rfl)
    (of_decide_eq_true (by kernel_rfl)) (by unfold Func.isWrapper; first | (rw [if_pos (by decide +kernel)]; kernel_rfl) | (rw [if_neg (by decide +kernel)]; exact ⟨rfl, rfl⟩))
    (fun os started H enc _ F => by rw [OpenClaim.pre_eq_preRow]; exact lifted os started H enc F)

theorem plain (f : FuncId) (fn : Func) (hf : Tryd.pinned.checked.prog.funcNamed "newswire/newswirelaw05.UnitOutward" = some f) (hfn : Tryd.pinned.checked.prog.funcs[f]? = some fn) :
    false = Tryd.pinned.checked.prog.looks [] ∧ ∀ (j : Nat) t, fn.params[j]? = some t → Tryd.pinned.checked.prog.wantsStandIn t = false := by
  obtain rfl : f = 4 := Option.some.inj ((show Tryd.prog.funcNamed "newswire/newswirelaw05.UnitOutward" = some 4 by kernel_rfl).symm.trans hf) |>.symm
  obtain rfl : fn = Tryd.f4 := (Option.some.inj (Tryd.func4.symm.trans hfn)).symm
  refine ⟨by kernel_rfl, fun j t ht => ?_⟩
  have all : (Tryd.f4.params.toList.all fun t => Tryd.prog.wantsStandIn t == false) = true := by kernel_rfl
  have := List.all_eq_true.1 all t (by rw [← Array.mem_def]; exact Array.mem_of_getElem? ht)
  exact (show Tryd.prog.wantsStandIn t = false by simpa using this)

/-- The statement. -/
theorem card : Rows.UnitOutwardCardSaid :=
  Claim7.holds_tied_plain_at .later [] _ _ _ _ said (fun _ h => by cases h) (by kernel_rfl) (fun _ h => by cases h) unitOutward_row_tie rfl ⟨rfl, rfl⟩ (by kernel_rfl) rfl plain (by kernel_rfl)
end unitOutward
end Go.Proofs.YtdldokhiefeloaaDoor
