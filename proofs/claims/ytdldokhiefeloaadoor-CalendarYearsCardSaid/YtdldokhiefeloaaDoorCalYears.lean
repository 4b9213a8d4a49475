/- For every input, CalendarYears returns true and leaves its arguments as they were; the tables hold what the program's text lays. -/
import Derived.Test.YtdldokhiefeloaaDoorCalFrame
namespace Go.Proofs.YtdldokhiefeloaaDoor
open Go.RowKit Go.ChangeShapes Go.WideShapes Go.ChangeAt

set_option maxRecDepth 100000 in
set_option maxHeartbeats 4000000 in
theorem calendarYears_any (c : Int) (w : World) (T : CW w) (c01 : -9223372036854775808 ≤ c ∧ c ≤ 9223372036854775807) :
    Calls Tryd.prog 14 #[.int .i64 c] w fun r w' => r = .returned (.bool true) ∧ Below w.heap.size w w' := by
  have HT := Lib.hid T
  have BB := Lib.hid (Below.refl w.heap.size w)
  clear T
  have hp := fun w => pickC_any c 9600 w (by omega) c01.1 c01.2
  have hq := pick_bd c 9600 (by omega)
  generalize pickZ c 9600 = q at *
  obtain ⟨q0, q1⟩ := hq
  have HP := Lib.hid hp
  clear hp c01
  have HD := Lib.hid (fun y m w T => days_any y m w T)
  go_enter Tryd.func14, Tryd.ntmps14
  go_wp2_with fail
  refine (saneC_any _ HT.out).mono ?_
  rintro e w1 ⟨rfl, hb⟩
  have HB := Lib.hid hb
  have hW : Below w.heap.size w w1 := by (repeat' first | exact Below.refl _ _ | assumption | (refine Below.andThen ?_ HB.out) | (exact HB.out.size) | (refine below_drewN ?_ _) | (refine Below.drew ?_) | (refine Below.alloc ?_ ?_ _) | (refine Below.setCell ?_ ?_ _) | (simp; done) | (simp; omega) | omega)
  replace BB := Lib.hid (Below.andThen BB.out hW)
  replace HT := Lib.hid (HT.out.next hW)
  clear hb hW HB
  go_wp2_with (refine Calls.mono (HP.out _) ?_; rintro e w' ⟨rfl, rfl⟩)
  obtain ⟨y, hy⟩ : ∃ y, y = 1 + q := ⟨_, rfl⟩
  rw [← hy]
  have y0 : 1 ≤ y := by omega
  have y1 : y ≤ 9600 := by omega
  clear hy q0 q1 HP
  have L4 := Lib.hid (longD_400 y y0)
  go_loopw [4, 5] (fun l i wr => ∃ k : Nat, k ≤ 400 ∧ i = .int .i64 k ∧ l = .int .i64 (longD y k) ∧ wr = w1) (fun _ i _ => 400 - (intOf i).toNat)
  case atStart => exact ⟨0, by omega, rfl, rfl, rfl⟩
  case round =>
    obtain ⟨k, hk, rfl, rfl, rfl⟩ := hrel
    by_cases hlt : k < 400
    · have l01 := longD_bd y k
      have LS := Lib.hid (show longD y (k + 1) = longD y k + leapZ (y + k) from rfl)
      have SY := Lib.hid (sumD_year (y + k) (by omega))
      have lz := leapZ_bd (y + k)
      generalize longD y k = L at *
      obtain ⟨l0, l1⟩ := l01
      have kb : decide ((k : Int) < 400) = true := by rw [decide_eq_true_eq]; omega
      go_wp2_with fail
      go_loopw [6, 7] (fun s m wr2 => ∃ j : Nat, j ≤ 12 ∧ m = .int .i64 ((j + 1 : Nat) : Int) ∧ s = .int .i64 (sumD (y + k) j) ∧ wr2 = wr) (fun _ m _ => 13 - (intOf m).toNat)
      case atStart => exact ⟨0, by omega, rfl, rfl, rfl⟩
      case round =>
        obtain ⟨j, hj, rfl, rfl, rfl⟩ := hrel
        by_cases hj2 : j < 12
        · have SS := Lib.hid (show sumD (y + k) (j + 1) = sumD (y + k) j + daysZ (y + k) ((j + 1 : Nat) : Int) from rfl)
          have sb := sumD_bd (y + k) j
          have lo := daysZ_low (y := y + k) (m := ((j + 1 : Nat) : Int)) (by omega)
          have hi := (daysZ_bd (y + k) ((j + 1 : Nat) : Int)).2
          have DC1 := Lib.hid (fun w T => days_any (y + k) ((j + 1 : Nat) : Int) w T)
          have DC2 := Lib.hid (fun w T => days_any y ((j + 1 : Nat) : Int) w T)
          have same : j ≠ 1 → daysZ (y + k) ((j + 1 : Nat) : Int) = daysZ y ((j + 1 : Nat) : Int) := fun h => daysZ_same _ _ _ (by omega) (by omega) (by omega)
          generalize sumD (y + k) j = S at *
          generalize daysZ (y + k) ((j + 1 : Nat) : Int) = D1 at *
          generalize daysZ y ((j + 1 : Nat) : Int) = D2 at *
          obtain ⟨M, hM⟩ : ∃ M : Int, M = ((j + 1 : Nat) : Int) := ⟨_, rfl⟩
          have HM := Lib.hid hM
          rw [← hM] at DC1 DC2 ⊢
          have g1 : decide (D1 < 28) = false := by rw [decide_eq_false_iff_not]; omega
          have g2 : decide (31 < D1) = false := by rw [decide_eq_false_iff_not]; omega
          have M0 : 1 ≤ M := by omega
          have M1 : M ≤ 12 := by omega
          obtain ⟨sb0, sb1⟩ := sb
          have hj3 := Lib.hid hj2
          by_cases h1 : j = 1
          · have g0 : (M != 2) = false := by rw [hM, h1]; rfl
            clear hM same DC2 h1
            go_wp2_with (with_reducible refine Calls.mono (DC1.out _ HT.out.tab) ?_; rintro e w' ⟨rfl, rfl⟩)
            go_roundw
            case rel => exact ⟨j + 1, by omega, by have := HM.out; go_num, by rw [SS.out], trivial⟩
            case measure => have := HM.out; simp [intOf]; omega
          · have g0 : (M != 2) = true := by rw [bne_iff_ne]; omega
            have g3 : (D1 != D2) = false := by rw [same h1]; exact bne_self_eq_false _
            clear hM same h1
            go_wp2_with (first | (with_reducible refine Calls.mono (DC1.out _ HT.out.tab) ?_; rintro e w' ⟨rfl, rfl⟩) | (with_reducible refine Calls.mono (DC2.out _ HT.out.tab) ?_; rintro e w' ⟨rfl, rfl⟩))
            go_roundw
            case rel => exact ⟨j + 1, by omega, by have := HM.out; go_num, by rw [SS.out], trivial⟩
            case measure => have := HM.out; simp [intOf]; omega
        · obtain rfl : j = 12 := by omega
          rw [SY.out]
          have l2 := lz
          obtain ⟨l20, l21⟩ := l2
          have HLZ := Lib.hid (show leapZ (y + k) = 0 ∨ leapZ (y + k) = 1 by omega)
          generalize leapZ (y + k) = Z at *
          rcases HLZ.out with rfl | rfl
          all_goals
            go_wp2_with fail
            go_roundw
            case rel => exact ⟨k + 1, by omega, by go_num, by rw [LS.out]; go_num, trivial⟩
            case measure => simp [intOf]; omega
    · obtain rfl : k = 400 := by omega
      rw [L4.out]
      have DC1 := Lib.hid (fun w T => days_v (show daysZ y 0 = 0 by unfold daysZ; rw [if_pos (by omega)]) w T)
      have DC2 := Lib.hid (fun w T => days_v (show daysZ 0 1 = 0 by decide) w T)
      go_wp2_with (first | (with_reducible refine Calls.mono (DC1.out _ HT.out.tab) ?_; rintro e w' ⟨rfl, rfl⟩) | (with_reducible refine Calls.mono (DC2.out _ HT.out.tab) ?_; rintro e w' ⟨rfl, rfl⟩))
      go_ret
      exact ⟨rfl, BB.out⟩

namespace calendarYears
set_option maxRecDepth 100000 in
theorem contract (H : Type) (enc : TypeId × Value → H) (W : World) (base : Nat) (args : Array Value) (ds gs : List (DataW H)) (before : List MemPlace)
    (hval : ∀ (j : Nat) t v, Tryd.f14.params[j]? = some t → args[j]? = some v → Value.okWide Tryd.prog W .any base t v)
    (hW : DataW.Whole enc Tryd.prog Tryd.f14.params.toList Rows.calendarYearsSpec.vars false W args.toList ds gs before) (hL : laidMetH Tryd.prog Rows.calendarYearsRow.laid W) (hsh : W.ShapedOpen Tryd.prog) :
    Calls Tryd.prog 14 args W fun e W' => ∃ v, e = .returned v ∧ Rows.calendarYearsSpec.post enc Tryd.prog Tryd.f14 false true false false W args v W' := by
  have hW' := hW
  obtain ⟨p, q, hA0, hV, rfl, hfz, hnd⟩ := hW
  have hA : DataW.TrodAll enc Tryd.prog W 0 (fun _ => true) true Tryd.f14.params.toList args.toList ds p := hA0
  rw [Tryd.params14] at hA hval
  obtain ⟨v0, vs0, d0, ds0, p0, q0, hargs, rfl, rfl, h0, r0⟩ := trodAll_cons hA
  obtain ⟨rfl, rfl, rfl⟩ := trodAll_nil r0
  obtain rfl : args = #[v0] := by cases args; simp_all
  obtain ⟨a0, rfl, rfl, rfl, k0⟩ := open_int Tryd.underlying3 (hval 0 _ _ rfl rfl) h0
  refine (calendarYears_any a0 W (cw hL hsh) (bd_i64 k0)).mono fun e W' ⟨he, hb⟩ => ?_
  subst he
  obtain ⟨rfl, _⟩ := trodVars_none hV
  exact ⟨_, rfl, law_post laidOut (by kernel_rfl) rfl (by kernel_rfl) Tryd.underlying4 hW' rfl hb⟩

def args0 : Array Value := #[.int .i64 0]
theorem laid_met (os : Os) : laidMet Tryd.prog Rows.calendarYearsRow.laid ((laidWorld os).forCall (fun _ _ => 0) ⟨#[], args0, []⟩).memory :=
  laidMet_of_run' 8 (by kernel_rfl) (by kernel_rfl)
theorem reads (os : Os) {H : Type} (enc : TypeId × Value → H) : ∃ places, DataW.whole enc Tryd.prog ((laidWorld os).forCall (fun _ _ => 0) ⟨#[], args0, []⟩).memory Tryd.f14.params.toList Rows.calendarYearsSpec.vars false args0.toList 8 = some ([.lit (.int .i64 0)], [], places) :=
  ⟨[], by kernel_rfl⟩

set_option maxRecDepth 100000 in
theorem lifted (os : Os) (started : os.Started) (H : Type) (enc : TypeId × Value → H) (F : Stop.Interp) :
    ReturnsInHanded {} Tryd.checked os 14 .any ((OpenSpec.ofChange Rows.calendarYearsSpec).preRow enc Tryd.prog Tryd.f14 Rows.calendarYearsRow.domain false Rows.calendarYearsRow.laid) (((OpenSpec.ofChange Rows.calendarYearsSpec).at F).post enc Tryd.prog Tryd.f14 false true false false) := by
  obtain ⟨places, hx⟩ := reads os enc
  refine returnsInHanded_of_row (C := Tryd.checked) (s := OpenSpec.ofChange Rows.calendarYearsSpec) own started (by kernel_rfl) Tryd.func14
    (witness_row_at (enc := enc) (C := Tryd.checked) false (laidWorld os) args0 rfl (by kernel_rfl) (by kernel_rfl) (by kernel_rfl)
      (OpenSpec.preRow_of_cond 8 hx (by kernel_rfl) (fun k hk => by cases hk) (by kernel_rfl) (laid_met os))) ?_
  intro W base args ds gs before hval hW _ _ _ hL hsh _
  exact contract H enc W base args ds gs before hval hW hL hsh

theorem said : Rows.CalendarYearsSaid :=
  OpenClaim.holds_of_cond 14 Tryd.f14 rfl rfl rfl rfl rfl rfl rfl ⟨rfl, rfl, rfl, rfl, rfl⟩ rfl rfl rfl rfl rfl (by kernel_rfl) Tryd.func14 (by kernel_rfl)
    (of_decide_eq_true (by kernel_rfl)) (by unfold Func.isWrapper; first | (rw [if_pos (by decide +kernel)]; kernel_rfl) | (rw [if_neg (by decide +kernel)]; exact ⟨rfl, rfl⟩))
    (fun os started H enc _ F => by rw [OpenClaim.pre_eq_preRow]; exact lifted os started H enc F)

theorem plain (f : FuncId) (fn : Func) (hf : Tryd.pinned.checked.prog.funcNamed "newswire/newswirelaw06.CalendarYears" = some f) (hfn : Tryd.pinned.checked.prog.funcs[f]? = some fn) :
    false = Tryd.pinned.checked.prog.looks [] ∧ ∀ (j : Nat) t, fn.params[j]? = some t → Tryd.pinned.checked.prog.wantsStandIn t = false := by
  obtain rfl : f = 14 := Option.some.inj ((show Tryd.prog.funcNamed "newswire/newswirelaw06.CalendarYears" = some 14 by kernel_rfl).symm.trans hf) |>.symm
  obtain rfl : fn = Tryd.f14 := (Option.some.inj (Tryd.func14.symm.trans hfn)).symm
  refine ⟨by kernel_rfl, fun j t ht => ?_⟩
  have all : (Tryd.f14.params.toList.all fun t => Tryd.prog.wantsStandIn t == false) = true := by kernel_rfl
  have := List.all_eq_true.1 all t (by rw [← Array.mem_def]; exact Array.mem_of_getElem? ht)
  exact (show Tryd.prog.wantsStandIn t = false by simpa using this)

/-- The statement. -/
theorem card : Rows.CalendarYearsCardSaid :=
  Claim7.holds_tied_plain_at .later [] _ _ _ _ said (fun _ h => by cases h) (by kernel_rfl) (fun _ h => by cases h) calendarYears_row_tie rfl ⟨rfl, rfl⟩ (by kernel_rfl) rfl plain (by kernel_rfl)
end calendarYears
end Go.Proofs.YtdldokhiefeloaaDoor
