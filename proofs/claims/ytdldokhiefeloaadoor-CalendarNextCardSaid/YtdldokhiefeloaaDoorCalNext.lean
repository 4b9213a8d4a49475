/- For every input, CalendarNext returns true and leaves its arguments as they were; the tables hold what the program's text lays. -/
import Derived.Test.YtdldokhiefeloaaDoorCalNextA
import Derived.Test.YtdldokhiefeloaaDoorCalNextB
import Derived.Test.YtdldokhiefeloaaDoorCalNextC
namespace Go.Proofs.YtdldokhiefeloaaDoor
open Go.RowKit Go.ChangeShapes Go.WideShapes Go.ChangeAt

theorem calendarNext_any (x1 x2 : Int) (w : World) (T : CW w) (b1 : -9223372036854775808 ≤ x1 ∧ x1 ≤ 9223372036854775807) (b2 : -9223372036854775808 ≤ x2 ∧ x2 ≤ 9223372036854775807) :
    Calls Tryd.prog 12 #[.int .i64 x1, .int .i64 x2] w fun r w' => r = .returned (.bool true) ∧ Below w.heap.size w w' := by
  have q1 := pick_bd x1 49989920 (by omega)
  have q2 := pick_bd x2 1681 (by omega)
  obtain ⟨m, hm⟩ : ∃ m, m = pickZ x1 49989920 := ⟨_, rfl⟩
  obtain ⟨o, ho⟩ : ∃ o, o = pickZ x2 1681 - 840 := ⟨_, rfl⟩
  have HM := fun w => pickC_any x1 49989920 w (by omega) b1.1 b1.2
  have HO := fun w => pickC_any x2 1681 w (by omega) b2.1 b2.2
  rw [← hm] at q1 HM
  obtain ⟨g, e1, e2⟩ := parts_ok (m := m) (o := o) (by omega) (by omega)
  obtain ⟨_, e3, e4⟩ := parts_ok (m := m + 1) (o := o) (by omega) (by omega)
  obtain ⟨_, e5, e6⟩ := parts_ok (m := m + 1440) (o := o) (by omega) (by omega)
  obtain ⟨_, e7, e8⟩ := parts_ok (m := m + 10080) (o := o) (by omega) (by omega)
  have hin := parts_in g
  rw [show m + 1 + o = m + o + 1 by omega, civ_next (by omega) (by omega)] at e3
  rw [show m + 1440 + o = m + o + 1440 by omega, civ_day (by omega) (by omega)] at e5
  rw [show m + 10080 + o = m + o + 10080 by omega] at e7
  obtain ⟨k1, k2, k3⟩ := civ_week (L := m + o)
  have hw : 0 ≤ (civOf (m + o)).w ∧ (civOf (m + o)).w < 7 := by rw [civ_w]; omega
  rw [e1] at hin
  obtain ⟨C, hC⟩ : ∃ C, C = civOf (m + o) := ⟨_, rfl⟩
  obtain ⟨E, hE⟩ : ∃ E, E = civOf (m + o + 10080) := ⟨_, rfl⟩
  rw [← hC] at e1 e3 e5 k1 k2 k3 hw hin
  rw [← hE] at e7 k1 k2 k3
  clear hC hE
  obtain ⟨a1, a2, a3, a4, a5, a6⟩ := C
  obtain ⟨d1, d2, d3, d4, d5, d6⟩ := E
  dsimp only at e3 e5 k1 k2 k3 hw hin
  subst k1 k2 k3
  obtain ⟨i0, i1, i2, i3, i4, i5, i6, i7, i8, i9⟩ := hin
  have HD := fun w T => days_any a1 a2 w T
  unfold dayNext at e3 e5
  dsimp only at e3 e5
  obtain ⟨D, hD⟩ : ∃ D, D = daysZ a1 a2 := ⟨_, rfl⟩
  rw [← hD] at HD e3 e5
  clear hD b1 b2
  by_cases h1 : a3 = D
  · rw [if_pos h1, if_pos h1] at e5
    rw [if_pos h1, if_pos h1] at e3
    have g1 : (a3 == D) = true := by rw [beq_iff_eq]; exact h1
    by_cases h2 : a2 + 1 = 13
    · rw [if_pos h2, if_pos h2] at e5
      rw [if_pos h2, if_pos h2] at e3
      have g2 : (a2 + 1 == 13) = true := by rw [beq_iff_eq]; exact h2
      by_cases h3 : d5 + 1 = 60
      · rw [if_pos h3] at e3
        have g3 : (d5 + 1 == 60) = true := by rw [beq_iff_eq]; exact h3
        by_cases h4 : d4 + 1 = 24
        · rw [if_pos h4] at e3
          have g4 : (d4 + 1 == 24) = true := by rw [beq_iff_eq]; exact h4
          exact next_CZ x1 x2 m _ o a1 a2 a3 d4 d5 d6 D d1 d2 d3 w T ho q1 q2 HM HO (parts_v e1 e2) (parts_v e3 e4) (parts_v e5 e6) (parts_v e7 e8) HD (by omega) (by omega) (by omega) (by omega) (by omega) (by omega) g1 g2 g3 g4
        · rw [if_neg h4] at e3
          have g4 : (d4 + 1 == 24) = false := by rw [beq_eq_false_iff_ne]; exact h4
          exact next_CY x1 x2 m _ o a1 a2 a3 d4 d5 d6 D d1 d2 d3 w T ho q1 q2 HM HO (parts_v e1 e2) (parts_v e3 e4) (parts_v e5 e6) (parts_v e7 e8) HD (by omega) (by omega) (by omega) (by omega) (by omega) (by omega) g1 g2 g3 g4
      · rw [if_neg h3] at e3
        have g3 : (d5 + 1 == 60) = false := by rw [beq_eq_false_iff_ne]; exact h3
        have g4 : (d4 == 24) = false := by rw [beq_eq_false_iff_ne]; omega
        exact next_CX x1 x2 m _ o a1 a2 a3 d4 d5 d6 D d1 d2 d3 w T ho q1 q2 HM HO (parts_v e1 e2) (parts_v e3 e4) (parts_v e5 e6) (parts_v e7 e8) HD (by omega) (by omega) (by omega) (by omega) (by omega) (by omega) g1 g2 g3 g4
    · rw [if_neg h2, if_neg h2] at e5
      rw [if_neg h2, if_neg h2] at e3
      have g2 : (a2 + 1 == 13) = false := by rw [beq_eq_false_iff_ne]; exact h2
      by_cases h3 : d5 + 1 = 60
      · rw [if_pos h3] at e3
        have g3 : (d5 + 1 == 60) = true := by rw [beq_iff_eq]; exact h3
        by_cases h4 : d4 + 1 = 24
        · rw [if_pos h4] at e3
          have g4 : (d4 + 1 == 24) = true := by rw [beq_iff_eq]; exact h4
          exact next_BZ x1 x2 m _ o a1 a2 a3 d4 d5 d6 D d1 d2 d3 w T ho q1 q2 HM HO (parts_v e1 e2) (parts_v e3 e4) (parts_v e5 e6) (parts_v e7 e8) HD (by omega) (by omega) (by omega) (by omega) (by omega) (by omega) g1 g2 g3 g4
        · rw [if_neg h4] at e3
          have g4 : (d4 + 1 == 24) = false := by rw [beq_eq_false_iff_ne]; exact h4
          exact next_BY x1 x2 m _ o a1 a2 a3 d4 d5 d6 D d1 d2 d3 w T ho q1 q2 HM HO (parts_v e1 e2) (parts_v e3 e4) (parts_v e5 e6) (parts_v e7 e8) HD (by omega) (by omega) (by omega) (by omega) (by omega) (by omega) g1 g2 g3 g4
      · rw [if_neg h3] at e3
        have g3 : (d5 + 1 == 60) = false := by rw [beq_eq_false_iff_ne]; exact h3
        have g4 : (d4 == 24) = false := by rw [beq_eq_false_iff_ne]; omega
        exact next_BX x1 x2 m _ o a1 a2 a3 d4 d5 d6 D d1 d2 d3 w T ho q1 q2 HM HO (parts_v e1 e2) (parts_v e3 e4) (parts_v e5 e6) (parts_v e7 e8) HD (by omega) (by omega) (by omega) (by omega) (by omega) (by omega) g1 g2 g3 g4
  · rw [if_neg h1, if_neg h1] at e5
    rw [if_neg h1, if_neg h1] at e3
    have g1 : (a3 == D) = false := by rw [beq_eq_false_iff_ne]; exact h1
    have h2 : ¬ a2 = 13 := by omega
    rw [if_neg h2, if_neg h2] at e5
    rw [if_neg h2, if_neg h2] at e3
    have g2 : (a2 == 13) = false := by rw [beq_eq_false_iff_ne]; exact h2
    by_cases h3 : d5 + 1 = 60
    · rw [if_pos h3] at e3
      have g3 : (d5 + 1 == 60) = true := by rw [beq_iff_eq]; exact h3
      by_cases h4 : d4 + 1 = 24
      · rw [if_pos h4] at e3
        have g4 : (d4 + 1 == 24) = true := by rw [beq_iff_eq]; exact h4
        exact next_AZ x1 x2 m _ o a1 a2 a3 d4 d5 d6 D d1 d2 d3 w T ho q1 q2 HM HO (parts_v e1 e2) (parts_v e3 e4) (parts_v e5 e6) (parts_v e7 e8) HD (by omega) (by omega) (by omega) (by omega) (by omega) (by omega) g1 g2 g3 g4
      · rw [if_neg h4] at e3
        have g4 : (d4 + 1 == 24) = false := by rw [beq_eq_false_iff_ne]; exact h4
        exact next_AY x1 x2 m _ o a1 a2 a3 d4 d5 d6 D d1 d2 d3 w T ho q1 q2 HM HO (parts_v e1 e2) (parts_v e3 e4) (parts_v e5 e6) (parts_v e7 e8) HD (by omega) (by omega) (by omega) (by omega) (by omega) (by omega) g1 g2 g3 g4
    · rw [if_neg h3] at e3
      have g3 : (d5 + 1 == 60) = false := by rw [beq_eq_false_iff_ne]; exact h3
      have g4 : (d4 == 24) = false := by rw [beq_eq_false_iff_ne]; omega
      exact next_AX x1 x2 m _ o a1 a2 a3 d4 d5 d6 D d1 d2 d3 w T ho q1 q2 HM HO (parts_v e1 e2) (parts_v e3 e4) (parts_v e5 e6) (parts_v e7 e8) HD (by omega) (by omega) (by omega) (by omega) (by omega) (by omega) g1 g2 g3 g4

namespace calendarNext
set_option maxRecDepth 100000 in
theorem contract (H : Type) (enc : TypeId × Value → H) (W : World) (base : Nat) (args : Array Value) (ds gs : List (DataW H)) (before : List MemPlace)
    (hval : ∀ (j : Nat) t v, Tryd.f12.params[j]? = some t → args[j]? = some v → Value.okWide Tryd.prog W .any base t v)
    (hW : DataW.Whole enc Tryd.prog Tryd.f12.params.toList Rows.calendarNextSpec.vars false W args.toList ds gs before) (hL : laidMetH Tryd.prog Rows.calendarNextRow.laid W) (hsh : W.ShapedOpen Tryd.prog) :
    Calls Tryd.prog 12 args W fun e W' => ∃ v, e = .returned v ∧ Rows.calendarNextSpec.post enc Tryd.prog Tryd.f12 false true false false W args v W' := by
  have hW' := hW
  obtain ⟨p, q, hA0, hV, rfl, hfz, hnd⟩ := hW
  have hA : DataW.TrodAll enc Tryd.prog W 0 (fun _ => true) true Tryd.f12.params.toList args.toList ds p := hA0
  rw [Tryd.params12] at hA hval
  obtain ⟨v0, vs0, d0, ds0, p0, q0, hargs, rfl, rfl, h0, r0⟩ := trodAll_cons hA
  obtain ⟨v1, vs1, d1, ds1, p1, q1, rfl, rfl, rfl, h1, r1⟩ := trodAll_cons r0
  obtain ⟨rfl, rfl, rfl⟩ := trodAll_nil r1
  obtain rfl : args = #[v0, v1] := by cases args; simp_all
  obtain ⟨a0, rfl, rfl, rfl, k0⟩ := open_int Tryd.underlying3 (hval 0 _ _ rfl rfl) h0
  obtain ⟨a1, rfl, rfl, rfl, k1⟩ := open_int Tryd.underlying3 (hval 1 _ _ rfl rfl) h1
  refine (calendarNext_any a0 a1 W (cw hL hsh) (bd_i64 k0) (bd_i64 k1)).mono fun e W' ⟨he, hb⟩ => ?_
  subst he
  obtain ⟨rfl, _⟩ := trodVars_none hV
  exact ⟨_, rfl, law_post laidOut (by kernel_rfl) rfl (by kernel_rfl) Tryd.underlying4 hW' rfl hb⟩

def args0 : Array Value := #[.int .i64 0, .int .i64 0]
theorem laid_met (os : Os) : laidMet Tryd.prog Rows.calendarNextRow.laid ((laidWorld os).forCall (fun _ _ => 0) ⟨#[], args0, []⟩).memory :=
  laidMet_of_run' 8 (by kernel_rfl) (by kernel_rfl)
theorem reads (os : Os) {H : Type} (enc : TypeId × Value → H) : ∃ places, DataW.whole enc Tryd.prog ((laidWorld os).forCall (fun _ _ => 0) ⟨#[], args0, []⟩).memory Tryd.f12.params.toList Rows.calendarNextSpec.vars false args0.toList 8 = some ([.lit (.int .i64 0), .lit (.int .i64 0)], [], places) :=
  ⟨[], by kernel_rfl⟩

set_option maxRecDepth 100000 in
theorem lifted (os : Os) (started : os.Started) (H : Type) (enc : TypeId × Value → H) (F : Stop.Interp) :
    ReturnsInHanded {} Tryd.checked os 12 .any ((OpenSpec.ofChange Rows.calendarNextSpec).preRow enc Tryd.prog Tryd.f12 Rows.calendarNextRow.domain false Rows.calendarNextRow.laid) (((OpenSpec.ofChange Rows.calendarNextSpec).at F).post enc Tryd.prog Tryd.f12 false true false false) := by
  obtain ⟨places, hx⟩ := reads os enc
  refine returnsInHanded_of_row (C := Tryd.checked) (s := OpenSpec.ofChange Rows.calendarNextSpec) own started (by kernel_rfl) Tryd.func12
    (witness_row_at (enc := enc) (C := Tryd.checked) false (laidWorld os) args0 rfl (by kernel_rfl) (by kernel_rfl) (by kernel_rfl)
      (OpenSpec.preRow_of_cond 8 hx (by kernel_rfl) (fun k hk => by cases hk) (by kernel_rfl) (laid_met os))) ?_
  intro W base args ds gs before hval hW _ _ _ hL hsh _
  exact contract H enc W base args ds gs before hval hW hL hsh

theorem said : Rows.CalendarNextSaid :=
  OpenClaim.holds_of_cond 12 Tryd.f12 rfl rfl rfl rfl rfl rfl rfl ⟨rfl, rfl, rfl, rfl, rfl⟩ rfl rfl rfl rfl rfl (by kernel_rfl) Tryd.func12 (by kernel_rfl)
    (of_decide_eq_true (by kernel_rfl)) (by unfold Func.isWrapper; first | (rw [if_pos (by decide +kernel)]; kernel_rfl) | (rw [if_neg (by decide +kernel)]; exact ⟨rfl, rfl⟩))
    (fun os started H enc _ F => by rw [OpenClaim.pre_eq_preRow]; exact lifted os started H enc F)

theorem plain (f : FuncId) (fn : Func) (hf : Tryd.pinned.checked.prog.funcNamed "newswire/newswirelaw06.CalendarNext" = some f) (hfn : Tryd.pinned.checked.prog.funcs[f]? = some fn) :
    false = Tryd.pinned.checked.prog.looks [] ∧ ∀ (j : Nat) t, fn.params[j]? = some t → Tryd.pinned.checked.prog.wantsStandIn t = false := by
  obtain rfl : f = 12 := Option.some.inj ((show Tryd.prog.funcNamed "newswire/newswirelaw06.CalendarNext" = some 12 by kernel_rfl).symm.trans hf) |>.symm
  obtain rfl : fn = Tryd.f12 := (Option.some.inj (Tryd.func12.symm.trans hfn)).symm
  refine ⟨by kernel_rfl, fun j t ht => ?_⟩
  have all : (Tryd.f12.params.toList.all fun t => Tryd.prog.wantsStandIn t == false) = true := by kernel_rfl
  have := List.all_eq_true.1 all t (by rw [← Array.mem_def]; exact Array.mem_of_getElem? ht)
  exact (show Tryd.prog.wantsStandIn t = false by simpa using this)

/-- The statement. -/
theorem card : Rows.CalendarNextCardSaid :=
  Claim7.holds_tied_plain_at .later [] _ _ _ _ said (fun _ h => by cases h) (by kernel_rfl) (fun _ h => by cases h) calendarNext_row_tie rfl ⟨rfl, rfl⟩ (by kernel_rfl) rfl plain (by kernel_rfl)
end calendarNext
end Go.Proofs.YtdldokhiefeloaaDoor
