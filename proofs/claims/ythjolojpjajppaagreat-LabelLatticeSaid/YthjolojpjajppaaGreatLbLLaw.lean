/- 'newswirelaw10.LabelLattice' returns true for every input: join is commutative, associative and idempotent, as far as there are at most 4 locks; None is neutral; a is below b exactly if their join is b; Below is an order, and the join is the least label above both. No condition. -/
import Derived.Test.YthjolojpjajppaaGreatLbLL
import Derived.Test.YthjolojpjajppaaGreatLGH
set_option linter.unusedVariables false
set_option linter.unusedSimpArgs false
set_option linter.unnecessarySimpa false
namespace Go.Proofs.YthjolojpjajppaaGreat
open Go.RowKit Go.ChangeShapes Go.WideShapes Go.ChangeAt
namespace Lb
theorem lattice_walk' (v0 v1 v2 v3 v4 v5 v6 v7 v8 v9 v10 v11 v12 v13 v14 v15 v16 v17 v18 v19 v20 : Int) (w : World) (hv0 : inM1 v0) (hv1 : inM1 v1) (hv2 : inM1 v2) (hv3 : inM1 v3) (hv4 : inM1 v4) (hv5 : inM1 v5) (hv6 : inM1 v6) (hv7 : inM1 v7) (hv8 : inM1 v8) (hv9 : inM1 v9) (hv10 : inM1 v10) (hv11 : inM1 v11) (hv12 : inM1 v12) (hv13 : inM1 v13) (hv14 : inM1 v14) (hv15 : inM1 v15) (hv16 : inM1 v16) (hv17 : inM1 v17) (hv18 : inM1 v18) (hv19 : inM1 v19) (hv20 : inM1 v20) : Calls Tryz.prog 5 #[.agg #[.int .i64 v0, .int .i64 v1, .int .i64 v2, .int .i64 v3, .int .i64 v4, .int .i64 v5, .int .i64 v6], .agg #[.int .i64 v7, .int .i64 v8, .int .i64 v9, .int .i64 v10, .int .i64 v11, .int .i64 v12, .int .i64 v13], .agg #[.int .i64 v14, .int .i64 v15, .int .i64 v16, .int .i64 v17, .int .i64 v18, .int .i64 v19, .int .i64 v20]] w fun e w' => e = .returned (.bool true) ∧ Below w.heap.size w w' := lattice_walk v0 v1 v2 v3 v4 v5 v6 v7 v8 v9 v10 v11 v12 v13 v14 v15 v16 v17 v18 v19 v20 w ⟨hv0, hv1, hv2, hv3, hv4, hv5, hv6⟩ ⟨hv7, hv8, hv9, hv10, hv11, hv12, hv13⟩ ⟨hv14, hv15, hv16, hv17, hv18, hv19, hv20⟩
end Lb
namespace labelLattice
theorem flat0 : leafsOf Tryz.prog 5 22 = some [some (some .i64), some (some .i64), some (some .i64), some (some .i64), some (some .i64), some (some .i64), some (some .i64)] := by kernel_rfl
theorem flat1 : leafsOf Tryz.prog 5 22 = some [some (some .i64), some (some .i64), some (some .i64), some (some .i64), some (some .i64), some (some .i64), some (some .i64)] := by kernel_rfl
theorem flat2 : leafsOf Tryz.prog 5 22 = some [some (some .i64), some (some .i64), some (some .i64), some (some .i64), some (some .i64), some (some .i64), some (some .i64)] := by kernel_rfl
set_option maxRecDepth 100000 in
theorem contract (H : Type) (enc : TypeId × Value → H) (W : World) (base : Nat) (args : Array Value) (ds gs : List (DataW H)) (before : List MemPlace)
    (hval : ∀ (j : Nat) t v, Tryz.f5.params[j]? = some t → args[j]? = some v → Value.okWide Tryz.prog W .any base t v)
    (hW : DataW.Whole enc Tryz.prog Tryz.f5.params.toList Rows.labelLatticeSpec.vars false W args.toList ds gs before) (_hL : laidMetH Tryz.prog Rows.labelLatticeRow.laid W) :
    Calls Tryz.prog 5 args W fun e W' => ∃ v, e = .returned v ∧ Rows.labelLatticeSpec.post enc Tryz.prog Tryz.f5 false true false false W args v W' := by
  have hW' := hW
  obtain ⟨p, q, hA0, hV, rfl, hfz, hnd⟩ := hW
  have hA : DataW.TrodAll enc Tryz.prog W 0 (fun _ => true) true Tryz.f5.params.toList args.toList ds p := hA0
  rw [Tryz.params5] at hA hval
  obtain ⟨v0, vs0, d0, ds0, p0, q0, hargs, rfl, rfl, h0, r0⟩ := trodAll_cons hA
  obtain ⟨v1, vs1, d1, ds1, p1, q1, rfl, rfl, rfl, h1, r1⟩ := trodAll_cons r0
  obtain ⟨v2, vs2, d2, ds2, p2, q2, rfl, rfl, rfl, h2, r2⟩ := trodAll_cons r1
  obtain ⟨rfl, rfl, rfl⟩ := trodAll_nil r2
  obtain rfl : args = #[v0, v1, v2] := by cases args; simp_all
  obtain ⟨cs0, rfl, c0x0, rs0x0, rfl, ⟨a0, rfl, k0⟩, c0x1, rs0x1, rfl, ⟨a1, rfl, k1⟩, c0x2, rs0x2, rfl, ⟨a2, rfl, k2⟩, c0x3, rs0x3, rfl, ⟨a3, rfl, k3⟩, c0x4, rs0x4, rfl, ⟨a4, rfl, k4⟩, c0x5, rs0x5, rfl, ⟨a5, rfl, k5⟩, c0x6, rs0x6, rfl, ⟨a6, rfl, k6⟩, rfl⟩ := open_agg 5 flat0 (by kernel_rfl) (hval 0 _ _ rfl rfl) h0
  obtain ⟨cs1, rfl, c1x0, rs1x0, rfl, ⟨a7, rfl, k7⟩, c1x1, rs1x1, rfl, ⟨a8, rfl, k8⟩, c1x2, rs1x2, rfl, ⟨a9, rfl, k9⟩, c1x3, rs1x3, rfl, ⟨a10, rfl, k10⟩, c1x4, rs1x4, rfl, ⟨a11, rfl, k11⟩, c1x5, rs1x5, rfl, ⟨a12, rfl, k12⟩, c1x6, rs1x6, rfl, ⟨a13, rfl, k13⟩, rfl⟩ := open_agg 5 flat1 (by kernel_rfl) (hval 1 _ _ rfl rfl) h1
  obtain ⟨cs2, rfl, c2x0, rs2x0, rfl, ⟨a14, rfl, k14⟩, c2x1, rs2x1, rfl, ⟨a15, rfl, k15⟩, c2x2, rs2x2, rfl, ⟨a16, rfl, k16⟩, c2x3, rs2x3, rfl, ⟨a17, rfl, k17⟩, c2x4, rs2x4, rfl, ⟨a18, rfl, k18⟩, c2x5, rs2x5, rfl, ⟨a19, rfl, k19⟩, c2x6, rs2x6, rfl, ⟨a20, rfl, k20⟩, rfl⟩ := open_agg 5 flat2 (by kernel_rfl) (hval 2 _ _ rfl rfl) h2
  refine (Lb.lattice_walk' a0 a1 a2 a3 a4 a5 a6 a7 a8 a9 a10 a11 a12 a13 a14 a15 a16 a17 a18 a19 a20 W (bd_i64 k0) (bd_i64 k1) (bd_i64 k2) (bd_i64 k3) (bd_i64 k4) (bd_i64 k5) (bd_i64 k6) (bd_i64 k7) (bd_i64 k8) (bd_i64 k9) (bd_i64 k10) (bd_i64 k11) (bd_i64 k12) (bd_i64 k13) (bd_i64 k14) (bd_i64 k15) (bd_i64 k16) (bd_i64 k17) (bd_i64 k18) (bd_i64 k19) (bd_i64 k20)).mono fun e W' ⟨he, hb⟩ => ?_
  subst he
  obtain ⟨rfl, _⟩ := trodVars_none hV
  exact ⟨_, rfl, law_post laidOut (by kernel_rfl) rfl (by kernel_rfl) Tryz.underlying4 hW' rfl hb⟩

def args0 : Array Value := #[.agg #[.int .i64 0, .int .i64 0, .int .i64 0, .int .i64 0, .int .i64 0, .int .i64 0, .int .i64 0], .agg #[.int .i64 0, .int .i64 0, .int .i64 0, .int .i64 0, .int .i64 0, .int .i64 0, .int .i64 0], .agg #[.int .i64 0, .int .i64 0, .int .i64 0, .int .i64 0, .int .i64 0, .int .i64 0, .int .i64 0]]
theorem laid_met (os : Os) : laidMet Tryz.prog Rows.labelLatticeRow.laid ((laidWorld os).forCall (fun _ _ => 0) ⟨#[], args0, []⟩).memory :=
  laidMet_of_run' 8 (by kernel_rfl) (by kernel_rfl)
theorem reads (os : Os) {H : Type} (enc : TypeId × Value → H) : ∃ places, DataW.whole enc Tryz.prog ((laidWorld os).forCall (fun _ _ => 0) ⟨#[], args0, []⟩).memory Tryz.f5.params.toList Rows.labelLatticeSpec.vars false args0.toList 8 = some ([.agg [.lit (.int .i64 0), .lit (.int .i64 0), .lit (.int .i64 0), .lit (.int .i64 0), .lit (.int .i64 0), .lit (.int .i64 0), .lit (.int .i64 0)], .agg [.lit (.int .i64 0), .lit (.int .i64 0), .lit (.int .i64 0), .lit (.int .i64 0), .lit (.int .i64 0), .lit (.int .i64 0), .lit (.int .i64 0)], .agg [.lit (.int .i64 0), .lit (.int .i64 0), .lit (.int .i64 0), .lit (.int .i64 0), .lit (.int .i64 0), .lit (.int .i64 0), .lit (.int .i64 0)]], [], places) :=
  ⟨[], by kernel_rfl⟩

set_option maxRecDepth 100000 in
theorem lifted (os : Os) (started : os.Started) (H : Type) (enc : TypeId × Value → H) (F : Stop.Interp) :
    ReturnsInHanded {} Tryz.checked os 5 .any ((OpenSpec.ofChange Rows.labelLatticeSpec).preRow enc Tryz.prog Tryz.f5 Rows.labelLatticeRow.domain false Rows.labelLatticeRow.laid) (((OpenSpec.ofChange Rows.labelLatticeSpec).at F).post enc Tryz.prog Tryz.f5 false true false false) := by
  obtain ⟨places, hx⟩ := reads os enc
  refine returnsInHanded_of_row (C := Tryz.checked) (s := OpenSpec.ofChange Rows.labelLatticeSpec) own started (by kernel_rfl) Tryz.func5
    (witness_row_at (enc := enc) (C := Tryz.checked) false (laidWorld os) args0 rfl (by kernel_rfl) (by kernel_rfl) (by kernel_rfl)
      (OpenSpec.preRow_of_cond 8 hx (by kernel_rfl) (fun k hk => by cases hk) (by kernel_rfl) (laid_met os))) ?_
  intro W base args ds gs before hval hW _ _ _ hL _ _
  exact contract H enc W base args ds gs before hval hW hL

theorem said : Rows.LabelLatticeSaid :=
  OpenClaim.holds_of_cond 5 Tryz.f5 rfl rfl rfl rfl rfl rfl rfl ⟨rfl, rfl, rfl, rfl, rfl⟩ rfl rfl rfl rfl rfl (by kernel_rfl) Tryz.func5 (by kernel_rfl)
    (of_decide_eq_true (by kernel_rfl)) (by unfold Func.isWrapper; first | (rw [if_pos (by decide +kernel)]; kernel_rfl) | (rw [if_neg (by decide +kernel)]; exact ⟨rfl, rfl⟩))
    (fun os started H enc _ F => by rw [OpenClaim.pre_eq_preRow]; exact lifted os started H enc F)

end labelLattice
end Go.Proofs.YthjolojpjajppaaGreat
