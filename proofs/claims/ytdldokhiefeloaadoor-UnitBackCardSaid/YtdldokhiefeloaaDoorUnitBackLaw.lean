/- For every input, UnitBack returns true and leaves its arguments as they were; the table of units holds what the program's text lays. -/
import Derived.Test.YtdldokhiefeloaaDoorUnitBack
import Derived.Test.YtdldokhiefeloaaDoorLaid
import Derived.Test.YtdldokhiefeloaaDoorCards
import Derived.Test.YtdldokhiefeloaaDoorTie
namespace Go.Proofs.YtdldokhiefeloaaDoor
open Go.RowKit Go.ChangeShapes Go.WideShapes Go.ChangeAt

theorem back_any (x0 x1 x2 z0 z1 : Int) (w : World) (T : Tab w) (a0 : -9223372036854775808 ≤ x0 ∧ x0 ≤ 9223372036854775807) (a1 : -9223372036854775808 ≤ x1 ∧ x1 ≤ 9223372036854775807) (a2 : -9223372036854775808 ≤ x2 ∧ x2 ≤ 9223372036854775807)
    (a3 : -9223372036854775808 ≤ z0 ∧ z0 ≤ 9223372036854775807) (a4 : -9223372036854775808 ≤ z1 ∧ z1 ≤ 9223372036854775807) :
    Calls Tryd.prog 5 #[.agg #[.int .i64 x0, .int .i64 x1, .int .i64 x2], .agg #[.int .i64 z0, .int .i64 z1]] w fun r w' => r = .returned (.bool true) ∧ Below w.heap.size w w' := by
  have hb := made_bd x0 x1 x2
  have hk : knownB (madeLo x0 x1 x2) (madeHi x0 x1 x2) (madeU x2) = true := (knownB_iff _ _ _).2 (by omega)
  have hr := rates_ok z0 z1
  have hm := back_math hk hr rfl rfl
  refine back_walk x0 x1 x2 z0 z1 _ _ _ _ _ (partnerZ (madeU x2) true) _ _ _ _ _ _ _ _ _ _ w T (fun w => made_any x0 x1 x2 w a0 a1 a2) (fun w => madeRates_any z0 z1 w a3 a4) (fun w => partner_any (madeU x2) true w hb.2.2.2.1 hb.2.2.2.2)
    (fun w T => convert_any _ _ _ _ _ _ w T) (fun w T => convert_any _ _ _ _ _ _ w T) (fun w => worthR_any _ _ _ _ w) ?_ hb.1 hb.2.1 hb.2.2.1
  rcases hm with h | h | ⟨h1, h2, h3, h4⟩
  · exact .inl h
  · exact .inr (.inl h)
  · exact .inr (.inr ⟨h1, h2, fun w T => lit_b h3 (contains_any _ _ _ _ _ _ w T), h4⟩)

namespace unitBack
theorem own : ownKnob Tryd.prog.godebug = none := by kernel_rfl
theorem laidOut : laidOutB Tryd.prog = true := by kernel_rfl
theorem gTab : Tryd.prog.globalNamed "newswire/unit.measures" = some 0 := by kernel_rfl
theorem gTabType : (Tryd.prog.globals[0]?).map (·.type) = some 83 := by kernel_rfl
theorem flatTab : leafsOf Tryd.prog 5 83 = some (List.replicate 24 (.int .i64)) := by kernel_rfl
theorem flat0 : leafsOf Tryd.prog 5 24 = some [.int .i64, .int .i64, .int .i64] := by kernel_rfl
theorem flat1 : leafsOf Tryd.prog 5 27 = some [.int .i64, .int .i64] := by kernel_rfl

theorem tab {W : World} (h : laidMet Tryd.prog Rows.unitBackRow.laid W) : Tab W := by
  have hc := laid_cells 5 (name := "newswire/unit.measures") (d := Rows.laid_newswire_unit_measures) h (by simp [Rows.unitBackRow]) gTab gTabType flatTab
  refine ⟨?_, fun i hi => ?_⟩
  · exact World.block_lt_of_cell? W ⟨0, 0, none⟩ (hc 0)
  · have e : dataCells (Rows.laid_newswire_unit_measures (H := Unit)) = [0, 0, 0, 1, 1, 1, 2, 1, 1, 2, 3048, 10000, 3, 1, 1, 3, 45359237, 100000000, 4, 1, 1, 4, 1, 1].map (Value.int .i64) := rfl
    rw [hc i, e, List.getElem?_map, List.getElem?_eq_getElem (by simpa using hi)]
    simp [List.getD, hi]

set_option maxRecDepth 100000 in
theorem contract (H : Type) (enc : TypeId × Value → H) (W : World) (base : Nat) (args : Array Value) (ds gs : List (DataW H)) (before : List MemPlace)
    (hval : ∀ (j : Nat) t v, Tryd.f5.params[j]? = some t → args[j]? = some v → Value.okWide Tryd.prog W .any base t v)
    (hW : DataW.Whole enc Tryd.prog Tryd.f5.params.toList Rows.unitBackSpec.vars false W args.toList ds gs before) (hL : laidMetH Tryd.prog Rows.unitBackRow.laid W) :
    Calls Tryd.prog 5 args W fun e W' => ∃ v, e = .returned v ∧ Rows.unitBackSpec.post enc Tryd.prog Tryd.f5 false true false false W args v W' := by
  have hW' := hW
  obtain ⟨p, q, hA0, hV, rfl, hfz, hnd⟩ := hW
  have hA : DataW.TrodAll enc Tryd.prog W 0 (fun _ => true) true Tryd.f5.params.toList args.toList ds p := hA0
  rw [Tryd.params5] at hA hval
  obtain ⟨v0, vs0, d0, ds0, p0, q0, hargs, rfl, rfl, h0, r0⟩ := trodAll_cons hA
  obtain ⟨v1, vs1, d1, ds1, p1, q1, rfl, rfl, rfl, h1, r1⟩ := trodAll_cons r0
  obtain ⟨rfl, rfl, rfl⟩ := trodAll_nil r1
  obtain rfl : args = #[v0, v1] := by cases args; simp_all
  obtain ⟨cs0, rfl, c0, cs0', rfl, ⟨x0, rfl, k0⟩, c1, cs1', rfl, ⟨x1, rfl, k1⟩, c2, cs2', rfl, ⟨x2, rfl, k2⟩, rfl⟩ := open_agg 5 flat0 (by kernel_rfl) (hval 0 _ _ rfl rfl) h0
  obtain ⟨cs1, rfl, c3, cs3', rfl, ⟨z0, rfl, k3⟩, c4, cs4', rfl, ⟨z1, rfl, k4⟩, rfl⟩ := open_agg 5 flat1 (by kernel_rfl) (hval 1 _ _ rfl rfl) h1
  refine (back_any x0 x1 x2 z0 z1 W (tab hL) (bd_i64 k0) (bd_i64 k1) (bd_i64 k2) (bd_i64 k3) (bd_i64 k4)).mono fun e W' ⟨he, hb⟩ => ?_
  subst he
  obtain ⟨rfl, _⟩ := trodVars_none hV
  exact ⟨_, rfl, law_post laidOut (by kernel_rfl) rfl (by kernel_rfl) Tryd.underlying4 hW' rfl hb⟩

/-- A world for the witness: the table holds what its initialiser lays. -/
noncomputable def laidWorld (os : Os) : World :=
  { World.holding Tryd.prog os ⟨#[], #[], []⟩ with heap := (World.holding Tryd.prog os ⟨#[], #[], []⟩).heap.modify 0 fun
      | .cells _ t frozen => .cells ⟨dataCells (Rows.laid_newswire_unit_measures (H := Unit))⟩ t frozen
      | o => o }
def args0 : Array Value := #[.agg #[.int .i64 0, .int .i64 0, .int .i64 0], .agg #[.int .i64 0, .int .i64 0]]
theorem laid_met (os : Os) : laidMet Tryd.prog Rows.unitBackRow.laid ((laidWorld os).forCall (fun _ _ => 0) ⟨#[], args0, []⟩).memory :=
  laidMet_of_run' 8 (by kernel_rfl) (by kernel_rfl)
theorem reads (os : Os) {H : Type} (enc : TypeId × Value → H) : ∃ places, DataW.whole enc Tryd.prog ((laidWorld os).forCall (fun _ _ => 0) ⟨#[], args0, []⟩).memory Tryd.f5.params.toList Rows.unitBackSpec.vars false args0.toList 8 = some ([.agg [.lit (.int .i64 0), .lit (.int .i64 0), .lit (.int .i64 0)], .agg [.lit (.int .i64 0), .lit (.int .i64 0)]], [], places) :=
  ⟨[], by kernel_rfl⟩

set_option maxRecDepth 100000 in
theorem lifted (os : Os) (started : os.Started) (H : Type) (enc : TypeId × Value → H) (F : Stop.Interp) :
    ReturnsInHanded {} Tryd.checked os 5 .any ((OpenSpec.ofChange Rows.unitBackSpec).preRow enc Tryd.prog Tryd.f5 Rows.unitBackRow.domain false Rows.unitBackRow.laid) (((OpenSpec.ofChange Rows.unitBackSpec).at F).post enc Tryd.prog Tryd.f5 false true false false) := by
  obtain ⟨places, hx⟩ := reads os enc
  refine returnsInHanded_of_row (C := Tryd.checked) (s := OpenSpec.ofChange Rows.unitBackSpec) own started (by kernel_rfl) Tryd.func5
    (witness_row_at (enc := enc) (C := Tryd.checked) false (laidWorld os) args0 rfl (by kernel_rfl) (by kernel_rfl) (by kernel_rfl)
      (OpenSpec.preRow_of_cond 8 hx (by kernel_rfl) (fun k hk => by cases hk) (by kernel_rfl) (laid_met os))) ?_
  intro W base args ds gs before hval hW _ _ _ hL _ _
  exact contract H enc W base args ds gs before hval hW hL

theorem said : Rows.UnitBackSaid :=
  OpenClaim.holds_of_cond 5 Tryd.f5 rfl rfl rfl rfl rfl rfl rfl ⟨rfl, rfl, rfl, rfl, rfl⟩ rfl rfl rfl rfl rfl (by kernel_rfl) Tryd.func5 (by kernel_rfl)
    (of_decide_eq_true (by kernel_rfl)) (by unfold Func.isWrapper; first | (rw [if_pos (by decide +kernel)]; kernel_rfl) | (rw [if_neg (by decide +kernel)]; exact ⟨rfl, rfl⟩))
    (fun os started H enc _ F => by rw [OpenClaim.pre_eq_preRow]; exact lifted os started H enc F)

theorem plain (f : FuncId) (fn : Func) (hf : Tryd.pinned.checked.prog.funcNamed "newswire/newswirelaw05.UnitBack" = some f) (hfn : Tryd.pinned.checked.prog.funcs[f]? = some fn) :
    false = Tryd.pinned.checked.prog.looks [] ∧ ∀ (j : Nat) t, fn.params[j]? = some t → Tryd.pinned.checked.prog.wantsStandIn t = false := by
  obtain rfl : f = 5 := Option.some.inj ((show Tryd.prog.funcNamed "newswire/newswirelaw05.UnitBack" = some 5 by kernel_rfl).symm.trans hf) |>.symm
  obtain rfl : fn = Tryd.f5 := (Option.some.inj (Tryd.func5.symm.trans hfn)).symm
  refine ⟨by kernel_rfl, fun j t ht => ?_⟩
  have all : (Tryd.f5.params.toList.all fun t => Tryd.prog.wantsStandIn t == false) = true := by kernel_rfl
  have := List.all_eq_true.1 all t (by rw [← Array.mem_def]; exact Array.mem_of_getElem? ht)
  exact (show Tryd.prog.wantsStandIn t = false by simpa using this)

/-- The statement. -/
theorem card : Rows.UnitBackCardSaid :=
  Claim7.holds_tied_plain_at .later [] _ _ _ _ said (fun _ h => by cases h) (by kernel_rfl) (fun _ h => by cases h) unitBack_row_tie rfl ⟨rfl, rfl⟩ (by kernel_rfl) rfl plain (by kernel_rfl)
#print axioms card
end unitBack
end Go.Proofs.YtdldokhiefeloaaDoor
