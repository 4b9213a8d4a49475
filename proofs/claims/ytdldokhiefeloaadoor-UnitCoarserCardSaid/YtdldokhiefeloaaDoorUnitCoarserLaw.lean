/- For every input, UnitCoarser returns true and leaves its arguments as they were; the table of units holds what the program's text lays. -/
import Derived.Test.YtdldokhiefeloaaDoorUnitCoarser
import Derived.Test.YtdldokhiefeloaaDoorUnitFrame
namespace Go.Proofs.YtdldokhiefeloaaDoor
open Go.RowKit Go.ChangeShapes Go.WideShapes Go.ChangeAt

theorem coarser_any (x0 x1 x2 o1 o2 nn dd : Int) (w : World) (T : Tab w) (a0 : -9223372036854775808 ≤ x0 ∧ x0 ≤ 9223372036854775807) (a1 : -9223372036854775808 ≤ x1 ∧ x1 ≤ 9223372036854775807) (a2 : -9223372036854775808 ≤ x2 ∧ x2 ≤ 9223372036854775807)
    (a3 : -9223372036854775808 ≤ o1 ∧ o1 ≤ 9223372036854775807) (a4 : -9223372036854775808 ≤ o2 ∧ o2 ≤ 9223372036854775807) (a5 : -9223372036854775808 ≤ nn ∧ nn ≤ 9223372036854775807) (a6 : -9223372036854775808 ≤ dd ∧ dd ≤ 9223372036854775807) :
    Calls Tryd.prog 8 #[.agg #[.int .i64 x0, .int .i64 x1, .int .i64 x2], .int .i64 o1, .int .i64 o2, .int .i64 nn, .int .i64 dd] w fun r w' => r = .returned (.bool true) ∧ Below w.heap.size w w' := by
  have hb := made_bd x0 x1 x2
  have hk : knownB (madeLo x0 x1 x2) (madeHi x0 x1 x2) (madeU x2) = true := (knownB_iff _ _ _).2 (by omega)
  have hq := pick_bd dd 1000 (by omega)
  have hp := pick_bd nn (1 + pickZ dd 1000 + 1) (by omega)
  have hs := share_math (q := 1 + pickZ dd 1000) (p := pickZ nn (1 + pickZ dd 1000 + 1)) hk hp.1 (by omega) (by omega) (by omega)
  obtain ⟨e1, e2, b1, b2, b3, b4, b5, b6, hadd⟩ := hs
  have hK := hadd _ rfl
  have key : ∀ s t : Int, stepB s = true → (s = 1 ∨ s = 10 ∨ s = 100 ∨ s = 1000 ∨ s = 10000) → (t = 1 ∨ t = 10 ∨ t = 100 ∨ t = 1000 ∨ t = 10000) → s ≤ t →
      ((coarseR (madeLo x0 x1 x2) (madeHi x0 x1 x2) (madeU x2) t).e = 50 ∨ ((coarseR (madeLo x0 x1 x2) (madeHi x0 x1 x2) (madeU x2) t).e = 0 ∧ (coarseR (madeLo x0 x1 x2) (madeHi x0 x1 x2) (madeU x2) s).e = 0 ∧
        (∀ w, Tab w → Calls Tryd.prog 32 #[.agg #[.int .i64 (coarseR (madeLo x0 x1 x2) (madeHi x0 x1 x2) (madeU x2) t).lo, .int .i64 (coarseR (madeLo x0 x1 x2) (madeHi x0 x1 x2) (madeU x2) t).hi, .int .i64 (coarseR (madeLo x0 x1 x2) (madeHi x0 x1 x2) (madeU x2) t).u], .int .i64 t] w fun r w' => r = .returned (.tuple #[.agg #[.int .i64 (coarseR (madeLo x0 x1 x2) (madeHi x0 x1 x2) (madeU x2) t).lo, .int .i64 (coarseR (madeLo x0 x1 x2) (madeHi x0 x1 x2) (madeU x2) t).hi, .int .i64 (coarseR (madeLo x0 x1 x2) (madeHi x0 x1 x2) (madeU x2) t).u], .int .i64 0]) ∧ Below w.heap.size w w') ∧
        (∀ w, Tab w → Calls Tryd.prog 21 #[.agg #[.int .i64 (coarseR (madeLo x0 x1 x2) (madeHi x0 x1 x2) (madeU x2) t).lo, .int .i64 (coarseR (madeLo x0 x1 x2) (madeHi x0 x1 x2) (madeU x2) t).hi, .int .i64 (coarseR (madeLo x0 x1 x2) (madeHi x0 x1 x2) (madeU x2) t).u], .agg #[.int .i64 (coarseR (madeLo x0 x1 x2) (madeHi x0 x1 x2) (madeU x2) s).lo, .int .i64 (coarseR (madeLo x0 x1 x2) (madeHi x0 x1 x2) (madeU x2) s).hi, .int .i64 (coarseR (madeLo x0 x1 x2) (madeHi x0 x1 x2) (madeU x2) s).u]] w fun r w' => r = .returned (.bool true) ∧ Below w.heap.size w w') ∧
        (∀ w, Tab w → Calls Tryd.prog 21 #[.agg #[.int .i64 (coarseR (madeLo x0 x1 x2) (madeHi x0 x1 x2) (madeU x2) s).lo, .int .i64 (coarseR (madeLo x0 x1 x2) (madeHi x0 x1 x2) (madeU x2) s).hi, .int .i64 (coarseR (madeLo x0 x1 x2) (madeHi x0 x1 x2) (madeU x2) s).u], .agg #[.int .i64 (madeLo x0 x1 x2), .int .i64 (madeHi x0 x1 x2), .int .i64 (madeU x2)]] w fun r w' => r = .returned (.bool true) ∧ Below w.heap.size w w'))) := by
    intro s t _ h1 h2 h3
    rcases coarse_math hk h1 h2 h3 with h | ⟨g1, g2, g3, g4, g5⟩
    · exact .inl h
    · refine .inr ⟨g1, g2, fun w T => ?_, fun w T => lit_b g4 (contains_any _ _ _ _ _ _ w T), fun w T => lit_b g5 (contains_any _ _ _ _ _ _ w T)⟩
      have := coarse_any (coarseR (madeLo x0 x1 x2) (madeHi x0 x1 x2) (madeU x2) t).lo (coarseR (madeLo x0 x1 x2) (madeHi x0 x1 x2) (madeU x2) t).hi (coarseR (madeLo x0 x1 x2) (madeHi x0 x1 x2) (madeU x2) t).u t w T
      rw [g3] at this
      exact lit_res (show coarseR (madeLo x0 x1 x2) (madeHi x0 x1 x2) (madeU x2) t = ⟨_, _, _, 0⟩ by rw [← g1]) this
  have hD : ∀ w, Tab w → Calls Tryd.prog 34 #[.agg #[.int .i64 (madeLo x0 x1 x2), .int .i64 (madeHi x0 x1 x2), .int .i64 (madeU x2)], .int .i64 (pickZ nn (1 + pickZ dd 1000 + 1)), .int .i64 (1 + pickZ dd 1000)] w fun r w' => r = .returned (.tuple #[.agg #[.int .i64 (shareR (madeLo x0 x1 x2) (madeHi x0 x1 x2) (madeU x2) (pickZ nn (1 + pickZ dd 1000 + 1)) (1 + pickZ dd 1000)).lo, .int .i64 (shareR (madeLo x0 x1 x2) (madeHi x0 x1 x2) (madeU x2) (pickZ nn (1 + pickZ dd 1000 + 1)) (1 + pickZ dd 1000)).hi, .int .i64 (shareR (madeLo x0 x1 x2) (madeHi x0 x1 x2) (madeU x2) (pickZ nn (1 + pickZ dd 1000 + 1)) (1 + pickZ dd 1000)).u], .int .i64 0]) ∧ Below w.heap.size w w' :=
    fun w T => lit_res (show _ = (⟨_, _, _, 0⟩ : Res) by rw [← e1]) (share_any _ _ _ _ _ w T)
  have hG : ∀ w, Tab w → Calls Tryd.prog 34 #[.agg #[.int .i64 (madeLo x0 x1 x2), .int .i64 (madeHi x0 x1 x2), .int .i64 (madeU x2)], .int .i64 (1 + pickZ dd 1000 - pickZ nn (1 + pickZ dd 1000 + 1)), .int .i64 (1 + pickZ dd 1000)] w fun r w' => r = .returned (.tuple #[.agg #[.int .i64 (shareR (madeLo x0 x1 x2) (madeHi x0 x1 x2) (madeU x2) (1 + pickZ dd 1000 - pickZ nn (1 + pickZ dd 1000 + 1)) (1 + pickZ dd 1000)).lo, .int .i64 (shareR (madeLo x0 x1 x2) (madeHi x0 x1 x2) (madeU x2) (1 + pickZ dd 1000 - pickZ nn (1 + pickZ dd 1000 + 1)) (1 + pickZ dd 1000)).hi, .int .i64 (shareR (madeLo x0 x1 x2) (madeHi x0 x1 x2) (madeU x2) (1 + pickZ dd 1000 - pickZ nn (1 + pickZ dd 1000 + 1)) (1 + pickZ dd 1000)).u], .int .i64 0]) ∧ Below w.heap.size w w' :=
    fun w T => lit_res (show _ = (⟨_, _, _, 0⟩ : Res) by rw [← e2]) (share_any _ _ _ _ _ w T)
  have hK' := hK.imp id (fun h => (⟨h.1, fun w (T : Tab w) => lit_b h.2 (contains_any _ _ _ _ _ _ w T)⟩ : _ ∧ ∀ w, Tab w → Calls Tryd.prog 21 _ w fun r w' => r = .returned (.bool true) ∧ Below w.heap.size w w'))
  rcases Int.lt_trichotomy (stepZ o1) (stepZ o2) with h | h | h
  · exact coarser_lt x0 x1 x2 o1 o2 nn dd _ _ _ (stepZ o1) (stepZ o2) _ _ _ _ _ _ _ _ _ _ _ _ _ _ _ _ _ _ _ _ w T h (fun w => made_any x0 x1 x2 w a0 a1 a2) (fun w => step_any o1 w a3.1 a3.2) (fun w => step_any o2 w a4.1 a4.2)
      (fun w T => coarse_any _ _ _ _ w T) (fun w T => coarse_any _ _ _ _ w T) (key _ _ (step_ok o1) (step_cases o1) (step_cases o2) (by omega)) (fun w => pick_any dd 1000 w (by omega) a6.1 a6.2) hq.1 (by omega)
      (fun w => pick_any nn _ w (by omega) a5.1 a5.2) hp.1 (by omega) hD hG b3 b4 b5 b6 (fun w T => add_any _ _ _ _ _ _ w T) hK'
  · have key' := key _ _ (step_ok o1) (step_cases o1) (step_cases o1) (Int.le_refl _)
    exact coarser_eq x0 x1 x2 o1 o2 nn dd _ _ _ (stepZ o1) (stepZ o2) _ _ _ _ _ _ _ _ _ _ _ _ _ _ _ _ _ _ _ _ w T rfl (fun w => made_any x0 x1 x2 w a0 a1 a2) (fun w => step_any o1 w a3.1 a3.2) (fun w => h ▸ step_any o2 w a4.1 a4.2)
      (fun w T => coarse_any _ _ _ _ w T) (fun w T => coarse_any _ _ _ _ w T) key' (fun w => pick_any dd 1000 w (by omega) a6.1 a6.2) hq.1 (by omega)
      (fun w => pick_any nn _ w (by omega) a5.1 a5.2) hp.1 (by omega) hD hG b3 b4 b5 b6 (fun w T => add_any _ _ _ _ _ _ w T) hK'
  · exact coarser_gt x0 x1 x2 o1 o2 nn dd _ _ _ (stepZ o2) (stepZ o1) _ _ _ _ _ _ _ _ _ _ _ _ _ _ _ _ _ _ _ _ w T h (fun w => made_any x0 x1 x2 w a0 a1 a2) (fun w => step_any o1 w a3.1 a3.2) (fun w => step_any o2 w a4.1 a4.2)
      (fun w T => coarse_any _ _ _ _ w T) (fun w T => coarse_any _ _ _ _ w T) (key _ _ (step_ok o2) (step_cases o2) (step_cases o1) (by omega)) (fun w => pick_any dd 1000 w (by omega) a6.1 a6.2) hq.1 (by omega)
      (fun w => pick_any nn _ w (by omega) a5.1 a5.2) hp.1 (by omega) hD hG b3 b4 b5 b6 (fun w T => add_any _ _ _ _ _ _ w T) hK'

namespace unitCoarser
theorem flat0 : leafsOf Tryd.prog 5 24 = some [some (some .i64), some (some .i64), some (some .i64)] := by kernel_rfl
set_option maxRecDepth 100000 in
theorem contract (H : Type) (enc : TypeId × Value → H) (W : World) (base : Nat) (args : Array Value) (ds gs : List (DataW H)) (before : List MemPlace)
    (hval : ∀ (j : Nat) t v, Tryd.f8.params[j]? = some t → args[j]? = some v → Value.okWide Tryd.prog W .any base t v)
    (hW : DataW.Whole enc Tryd.prog Tryd.f8.params.toList Rows.unitCoarserSpec.vars false W args.toList ds gs before) (hL : laidMetH Tryd.prog Rows.unitCoarserRow.laid W) :
    Calls Tryd.prog 8 args W fun e W' => ∃ v, e = .returned v ∧ Rows.unitCoarserSpec.post enc Tryd.prog Tryd.f8 false true false false W args v W' := by
  have hW' := hW
  obtain ⟨p, q, hA0, hV, rfl, hfz, hnd⟩ := hW
  have hA : DataW.TrodAll enc Tryd.prog W 0 (fun _ => true) true Tryd.f8.params.toList args.toList ds p := hA0
  rw [Tryd.params8] at hA hval
  obtain ⟨v0, vs0, d0, ds0, p0, q0, hargs, rfl, rfl, h0, r0⟩ := trodAll_cons hA
  obtain ⟨v1, vs1, d1, ds1, p1, q1, rfl, rfl, rfl, h1, r1⟩ := trodAll_cons r0
  obtain ⟨v2, vs2, d2, ds2, p2, q2, rfl, rfl, rfl, h2, r2⟩ := trodAll_cons r1
  obtain ⟨v3, vs3, d3, ds3, p3, q3, rfl, rfl, rfl, h3, r3⟩ := trodAll_cons r2
  obtain ⟨v4, vs4, d4, ds4, p4, q4, rfl, rfl, rfl, h4, r4⟩ := trodAll_cons r3
  obtain ⟨rfl, rfl, rfl⟩ := trodAll_nil r4
  obtain rfl : args = #[v0, v1, v2, v3, v4] := by cases args; simp_all
  obtain ⟨cs0, rfl, c0x0, rs0x0, rfl, ⟨a0, rfl, k0⟩, c0x1, rs0x1, rfl, ⟨a1, rfl, k1⟩, c0x2, rs0x2, rfl, ⟨a2, rfl, k2⟩, rfl⟩ := open_agg 5 flat0 (by kernel_rfl) (hval 0 _ _ rfl rfl) h0
  obtain ⟨a3, rfl, rfl, rfl, k3⟩ := open_int Tryd.underlying3 (hval 1 _ _ rfl rfl) h1
  obtain ⟨a4, rfl, rfl, rfl, k4⟩ := open_int Tryd.underlying3 (hval 2 _ _ rfl rfl) h2
  obtain ⟨a5, rfl, rfl, rfl, k5⟩ := open_int Tryd.underlying3 (hval 3 _ _ rfl rfl) h3
  obtain ⟨a6, rfl, rfl, rfl, k6⟩ := open_int Tryd.underlying3 (hval 4 _ _ rfl rfl) h4
  refine (coarser_any a0 a1 a2 a3 a4 a5 a6 W (tab hL) (bd_i64 k0) (bd_i64 k1) (bd_i64 k2) (bd_i64 k3) (bd_i64 k4) (bd_i64 k5) (bd_i64 k6)).mono fun e W' ⟨he, hb⟩ => ?_
  subst he
  obtain ⟨rfl, _⟩ := trodVars_none hV
  exact ⟨_, rfl, law_post laidOut (by kernel_rfl) rfl (by kernel_rfl) Tryd.underlying4 hW' rfl hb⟩

def args0 : Array Value := #[.agg #[.int .i64 0, .int .i64 0, .int .i64 0], .int .i64 0, .int .i64 0, .int .i64 0, .int .i64 0]
theorem laid_met (os : Os) : laidMet Tryd.prog Rows.unitCoarserRow.laid ((laidWorld os).forCall (fun _ _ => 0) ⟨#[], args0, []⟩).memory :=
  laidMet_of_run' 8 (by kernel_rfl) (by kernel_rfl)
theorem reads (os : Os) {H : Type} (enc : TypeId × Value → H) : ∃ places, DataW.whole enc Tryd.prog ((laidWorld os).forCall (fun _ _ => 0) ⟨#[], args0, []⟩).memory Tryd.f8.params.toList Rows.unitCoarserSpec.vars false args0.toList 8 = some ([.agg [.lit (.int .i64 0), .lit (.int .i64 0), .lit (.int .i64 0)], .lit (.int .i64 0), .lit (.int .i64 0), .lit (.int .i64 0), .lit (.int .i64 0)], [], places) :=
  ⟨[], by kernel_rfl⟩

set_option maxRecDepth 100000 in
theorem lifted (os : Os) (started : os.Started) (H : Type) (enc : TypeId × Value → H) (F : Stop.Interp) :
    ReturnsInHanded {} Tryd.checked os 8 .any ((OpenSpec.ofChange Rows.unitCoarserSpec).preRow enc Tryd.prog Tryd.f8 Rows.unitCoarserRow.domain false Rows.unitCoarserRow.laid) (((OpenSpec.ofChange Rows.unitCoarserSpec).at F).post enc Tryd.prog Tryd.f8 false true false false) := by
  obtain ⟨places, hx⟩ := reads os enc
  refine returnsInHanded_of_row (C := Tryd.checked) (s := OpenSpec.ofChange Rows.unitCoarserSpec) own started (by kernel_rfl) Tryd.func8
    (witness_row_at (enc := enc) (C := Tryd.checked) false (laidWorld os) args0 rfl (by kernel_rfl) (by kernel_rfl) (by kernel_rfl)
      (OpenSpec.preRow_of_cond 8 hx (by kernel_rfl) (fun k hk => by cases hk) (by kernel_rfl) (laid_met os))) ?_
  intro W base args ds gs before hval hW _ _ _ hL _ _
  exact contract H enc W base args ds gs before hval hW hL

theorem said : Rows.UnitCoarserSaid :=
  OpenClaim.holds_of_cond 8 Tryd.f8 rfl rfl rfl rfl rfl rfl rfl ⟨rfl, rfl, rfl, rfl, rfl⟩ rfl rfl rfl rfl rfl (by kernel_rfl) Tryd.func8 (by kernel_rfl)
    (of_decide_eq_true (by kernel_rfl)) (by unfold Func.isWrapper; first | (rw [if_pos (by decide +kernel)]; kernel_rfl) | (rw [if_neg (by decide +kernel)]; exact ⟨rfl, rfl⟩))
    (fun os started H enc _ F => by rw [OpenClaim.pre_eq_preRow]; exact lifted os started H enc F)

theorem plain (f : FuncId) (fn : Func) (hf : Tryd.pinned.checked.prog.funcNamed "newswire/newswirelaw05.UnitCoarser" = some f) (hfn : Tryd.pinned.checked.prog.funcs[f]? = some fn) :
    false = Tryd.pinned.checked.prog.looks [] ∧ ∀ (j : Nat) t, fn.params[j]? = some t → Tryd.pinned.checked.prog.wantsStandIn t = false := by
  obtain rfl : f = 8 := Option.some.inj ((show Tryd.prog.funcNamed "newswire/newswirelaw05.UnitCoarser" = some 8 by kernel_rfl).symm.trans hf) |>.symm
  obtain rfl : fn = Tryd.f8 := (Option.some.inj (Tryd.func8.symm.trans hfn)).symm
  refine ⟨by kernel_rfl, fun j t ht => ?_⟩
  have all : (Tryd.f8.params.toList.all fun t => Tryd.prog.wantsStandIn t == false) = true := by kernel_rfl
  have := List.all_eq_true.1 all t (by rw [← Array.mem_def]; exact Array.mem_of_getElem? ht)
  exact (show Tryd.prog.wantsStandIn t = false by simpa using this)

/-- The statement. -/
theorem card : Rows.UnitCoarserCardSaid :=
  Claim7.holds_tied_plain_at .later [] _ _ _ _ said (fun _ h => by cases h) (by kernel_rfl) (fun _ h => by cases h) unitCoarser_row_tie rfl ⟨rfl, rfl⟩ (by kernel_rfl) rfl plain (by kernel_rfl)
end unitCoarser
end Go.Proofs.YtdldokhiefeloaaDoor
