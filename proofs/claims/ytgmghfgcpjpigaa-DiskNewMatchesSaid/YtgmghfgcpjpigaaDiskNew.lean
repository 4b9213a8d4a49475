/- For every input, DiskNewMatches returns true and leaves its arguments as they were. -/
import Derived.Test.YtgmghfgcpjpigaaDiskFrame
namespace Go.Proofs.Ytgmghfgcpjpigaa
open Go.RowKit Go.ChangeShapes Go.WideShapes Go.ChangeAt

theorem fresh_read (n : Nat) (a : Int) (h0 : 0 ≤ a) (h1 : a < n) : (DS.fresh n).readV a 1 = ⟨#[0]⟩ ∧ (DS.fresh n).readE a 1 = 0 := by
  have hw : within n a 1 = true := (within_iff _ _ _).2 (by omega)
  have e : (DS.fresh n).sure.length = n := by simp [DS.fresh]
  have eo : (DS.fresh n).off = false := rfl
  have ev : (((DS.fresh n).vis.drop a.toNat).take 1) = [0] := by
    simp only [DS.fresh, List.drop_replicate, List.take_replicate]
    rw [show min 1 (n - a.toNat) = 1 by omega]
    rfl
  constructor
  · simp only [DS.readV, DS.readOk, eo, e, hw, Bool.not_false, Bool.and_true, if_true, Int.toNat_one, ev]
  · simp only [DS.readE, eo, e, hw, if_true, if_false, Bool.false_eq_true]

set_option maxRecDepth 100000 in
set_option maxHeartbeats 2000000 in
theorem diskNew_any (z a : Int) (w : World) (bz : -9223372036854775808 ≤ z ∧ z ≤ 9223372036854775807) (ba : -9223372036854775808 ≤ a ∧ a ≤ 9223372036854775807) :
    Calls Try.prog 3 #[.int .i64 z, .int .i64 a] w fun r w' => r = .returned (.bool true) ∧ Below w.heap.size w w' := by
  by_cases hz : z < 1 ∨ 4194304 < z
  · have hz' : z < 1 ∨ (¬ z < 1 ∧ 4194304 < z) := by omega
    have CN := Lib.hid (fun w => new_bad z w hz)
    clear hz
    rcases hz' with hz | ⟨hz0, hz⟩
    all_goals
      go_enter Try.func3, Try.ntmps3
      go_wp2_with fail
      refine (sane_any _).mono ?_
      rintro e w1 ⟨rfl, hb⟩
      have HB := Lib.hid hb
      clear hb
      go_wp2_with fail
      refine (CN.out _).mono ?_
      rintro e w2 ⟨rfl, rfl⟩
      go_wp2
      go_ret
      exact ⟨rfl, HB.out⟩
  · obtain ⟨n, rfl⟩ := Int.eq_ofNat_of_zero_le (show 0 ≤ z by omega)
    have z1 : ¬ (n : Int) < 1 := by omega
    have z2 : ¬ 4194304 < (n : Int) := by omega
    have CN := Lib.hid (fun w => new_any n w (by omega) (by omega))
    have pb := pick_bd a n (by omega)
    have CP := Lib.hid (fun w => pick_any a n w (by omega) ba.1 ba.2)
    obtain ⟨f1, f2⟩ := fresh_read n (pickZ a n) pb.1 pb.2
    have F1 := Lib.hid f1
    have F2 := Lib.hid f2
    generalize pickZ a n = p at *
    clear hz f1 f2
    go_enter Try.func3, Try.ntmps3
    go_wp2_with fail
    refine (sane_any _).mono ?_
    rintro e w1 ⟨rfl, hb⟩
    have HB := Lib.hid hb
    clear hb
    go_wp2_with fail
    refine (CN.out _).mono ?_
    rintro e w2 ⟨D, F, rfl, hb, hD, hF⟩
    have O := Lib.hid (On.new HB.out hb hD hF)
    clear hb hD hF
    go_wp2_with fail
    refine (CP.out _).mono ?_
    rintro e w3 ⟨rfl, rfl⟩
    go_wp2_with fail
    refine (read_any D n _ _ p 1 _ O.out.disk (by omega) (by omega)).mono ?_
    rintro e w3 ⟨rfl, rfl⟩
    rw [F1.out, F2.out]
    go_wp2_with fail
    refine (size_of D n _ _ _ O.out.disk).mono ?_
    rintro e w3 ⟨rfl, rfl⟩
    go_wp2_with fail
    refine (pending_of D n _ _ _ O.out.disk).mono ?_
    rintro e w3 ⟨rfl, rfl⟩
    rw [show (DS.fresh n).pend.length = 0 from rfl]
    go_wp2
    go_ret
    exact ⟨rfl, O.out.below⟩
namespace diskNewMatches
set_option maxRecDepth 100000 in
theorem contract (H : Type) (enc : TypeId × Value → H) (W : World) (base : Nat) (args : Array Value) (ds gs : List (DataW H)) (before : List MemPlace)
    (hval : ∀ (j : Nat) t v, Try.f3.params[j]? = some t → args[j]? = some v → Value.okWide Try.prog W .any base t v)
    (hW : DataW.Whole enc Try.prog Try.f3.params.toList Rows.diskNewMatchesSpec.vars false W args.toList ds gs before) (_hL : laidMetH Try.prog Rows.diskNewMatchesRow.laid W) :
    Calls Try.prog 3 args W fun e W' => ∃ v, e = .returned v ∧ Rows.diskNewMatchesSpec.post enc Try.prog Try.f3 false true false false W args v W' := by
  have hW' := hW
  obtain ⟨p, q, hA0, hV, rfl, hfz, hnd⟩ := hW
  have hA : DataW.TrodAll enc Try.prog W 0 (fun _ => true) true Try.f3.params.toList args.toList ds p := hA0
  rw [Try.params3] at hA hval
  obtain ⟨v0, vs0, d0, ds0, p0, q0, hargs, rfl, rfl, h0, r0⟩ := trodAll_cons hA
  obtain ⟨v1, vs1, d1, ds1, p1, q1, rfl, rfl, rfl, h1, r1⟩ := trodAll_cons r0
  obtain ⟨rfl, rfl, rfl⟩ := trodAll_nil r1
  obtain rfl : args = #[v0, v1] := by cases args; simp_all
  obtain ⟨a0, rfl, rfl, rfl, k0⟩ := open_int Try.underlying3 (hval 0 _ _ rfl rfl) h0
  obtain ⟨a1, rfl, rfl, rfl, k1⟩ := open_int Try.underlying3 (hval 1 _ _ rfl rfl) h1
  refine (diskNew_any a0 a1 W (bd_i64 k0) (bd_i64 k1)).mono fun e W' ⟨he, hb⟩ => ?_
  subst he
  obtain ⟨rfl, _⟩ := trodVars_none hV
  exact ⟨_, rfl, law_post laidOut (by kernel_rfl) rfl (by kernel_rfl) Try.underlying4 hW' rfl hb⟩

def args0 : Array Value := #[.int .i64 0, .int .i64 0]
theorem laid_met (os : Os) : laidMet Try.prog Rows.diskNewMatchesRow.laid ((laidWorld os).forCall (fun _ _ => 0) ⟨#[], args0, []⟩).memory :=
  laidMet_of_run' 8 (by kernel_rfl) (by kernel_rfl)
theorem reads (os : Os) {H : Type} (enc : TypeId × Value → H) : ∃ places, DataW.whole enc Try.prog ((laidWorld os).forCall (fun _ _ => 0) ⟨#[], args0, []⟩).memory Try.f3.params.toList Rows.diskNewMatchesSpec.vars false args0.toList 8 = some ([.lit (.int .i64 0), .lit (.int .i64 0)], [], places) :=
  ⟨[], by kernel_rfl⟩

set_option maxRecDepth 100000 in
theorem lifted (os : Os) (started : os.Started) (H : Type) (enc : TypeId × Value → H) (F : Stop.Interp) :
    ReturnsInHanded {} Try.checked os 3 .any ((OpenSpec.ofChange Rows.diskNewMatchesSpec).preRow enc Try.prog Try.f3 Rows.diskNewMatchesRow.domain false Rows.diskNewMatchesRow.laid) (((OpenSpec.ofChange Rows.diskNewMatchesSpec).at F).post enc Try.prog Try.f3 false true false false) := by
  obtain ⟨places, hx⟩ := reads os enc
  refine returnsInHanded_of_row (C := Try.checked) (s := OpenSpec.ofChange Rows.diskNewMatchesSpec) own started (by kernel_rfl) Try.func3
    (witness_row_at (enc := enc) (C := Try.checked) false (laidWorld os) args0 rfl (by kernel_rfl) (by kernel_rfl) (by kernel_rfl)
      (OpenSpec.preRow_of_cond 8 hx (by kernel_rfl) (fun k hk => by cases hk) (by kernel_rfl) (laid_met os))) ?_
  intro W base args ds gs before hval hW _ _ _ hL _ _
  exact contract H enc W base args ds gs before hval hW hL

theorem said : Rows.DiskNewMatchesSaid :=
  OpenClaim.holds_of_cond 3 Try.f3 rfl rfl rfl rfl rfl rfl rfl ⟨rfl, rfl, rfl, rfl, rfl⟩ rfl rfl rfl rfl rfl (by kernel_rfl) Try.func3 (by kernel_rfl)
    (of_decide_eq_true (by kernel_rfl)) (by unfold Func.isWrapper; first | (rw [if_pos (by decide +kernel)]; kernel_rfl) | (rw [if_neg (by decide +kernel)]; exact ⟨rfl, rfl⟩))
    (fun os started H enc _ F => by rw [OpenClaim.pre_eq_preRow]; exact lifted os started H enc F)

end diskNewMatches
end Go.Proofs.Ytgmghfgcpjpigaa
