/- For every input, UnitMonotone returns true and leaves its arguments as they were; the table of units holds what the program's text lays. -/
import Derived.Test.YtdldokhiefeloaaDoorUnitMonoA
import Derived.Test.YtdldokhiefeloaaDoorUnitMonoB
import Derived.Test.YtdldokhiefeloaaDoorUnitMonoC
import Derived.Test.YtdldokhiefeloaaDoorUnitMonoD
import Derived.Test.YtdldokhiefeloaaDoorUnitFrame
namespace Go.Proofs.YtdldokhiefeloaaDoor
open Go.RowKit Go.ChangeShapes Go.WideShapes Go.ChangeAt

theorem unitMonotone_any (x0 x1 x2 le mo z0 z1 sz nn dd y0 y1 y2 : Int) (w : World) (T : Tab w) (a0 : -9223372036854775808 ≤ x0 ∧ x0 ≤ 9223372036854775807) (a1 : -9223372036854775808 ≤ x1 ∧ x1 ≤ 9223372036854775807) (a2 : -9223372036854775808 ≤ x2 ∧ x2 ≤ 9223372036854775807) (a3 : -9223372036854775808 ≤ le ∧ le ≤ 9223372036854775807) (a4 : -9223372036854775808 ≤ mo ∧ mo ≤ 9223372036854775807) (a5 : -9223372036854775808 ≤ z0 ∧ z0 ≤ 9223372036854775807) (a6 : -9223372036854775808 ≤ z1 ∧ z1 ≤ 9223372036854775807) (a7 : -9223372036854775808 ≤ sz ∧ sz ≤ 9223372036854775807) (a8 : -9223372036854775808 ≤ nn ∧ nn ≤ 9223372036854775807) (a9 : -9223372036854775808 ≤ dd ∧ dd ≤ 9223372036854775807) (a10 : -9223372036854775808 ≤ y0 ∧ y0 ≤ 9223372036854775807) (a11 : -9223372036854775808 ≤ y1 ∧ y1 ≤ 9223372036854775807) (a12 : -9223372036854775808 ≤ y2 ∧ y2 ≤ 9223372036854775807) :
    Calls Tryd.prog 6 #[.agg #[.int .i64 x0, .int .i64 x1, .int .i64 x2], .int .i64 le, .int .i64 mo, .agg #[.int .i64 z0, .int .i64 z1], .int .i64 sz, .int .i64 nn, .int .i64 dd, .agg #[.int .i64 y0, .int .i64 y1, .int .i64 y2]] w fun r w' => r = .returned (.bool true) ∧ Below w.heap.size w w' := by
  have hb := made_bd x0 x1 x2
  have hy := made_bd y0 y1 y2
  have hk : knownB (madeLo x0 x1 x2) (madeHi x0 x1 x2) (madeU x2) = true := (knownB_iff _ _ _).2 (by omega)
  have ht : knownB (madeLo y0 y1 y2) (madeHi y0 y1 y2) (madeU x2) = true := (knownB_iff _ _ _).2 (by omega)
  have hr := rates_ok z0 z1
  have hl := pick_bd le 500 (by omega)
  have hm := pick_bd mo 500 (by omega)
  have hp := pick_bd nn 1001 (by omega)
  have hq := pick_bd dd 1000 (by omega)
  have hs := step_cases sz
  have main : ∀ AL AH : Int, 0 ≤ AL → AL ≤ madeLo x0 x1 x2 → madeHi x0 x1 x2 ≤ AH → AH ≤ 999999 →
      containsB AL AH (madeU x2) (madeLo x0 x1 x2) (madeHi x0 x1 x2) (madeU x2) = true ∧ knownB AL AH (madeU x2) = true := fun AL AH h0 h1 h2 h3 =>
    ⟨contains_of (valid_of hb.2.2.2.1 hb.2.2.2.2 h0 (by omega) h3) (valid_of hb.2.2.2.1 hb.2.2.2.2 hb.1 hb.2.1 hb.2.2.1) h1 h2, (knownB_iff _ _ _).2 (by omega)⟩
  by_cases c1 : 0 < madeLo x0 x1 x2 - pickZ le 500 <;> by_cases c2 : madeHi x0 x1 x2 + pickZ mo 500 < 999999
  · obtain ⟨m1, m2⟩ := main (madeLo x0 x1 x2 - pickZ le 500) (madeHi x0 x1 x2 + pickZ mo 500) (by omega) (by omega) (by omega) (by omega)
    refine monotone_a x0 x1 x2 le mo z0 z1 sz nn dd y0 y1 y2 _ _ _ _ _ _ _ _ (partnerZ (madeU x2) (decide (pickZ sz 2 = 0))) _ _ _ _ _ _ _ _ _ _ _ _ _ _ _ _ _ _ _ _ _ _ _ _ _ _ _ _ _ _ _ _ _ _ _ _ _ _ w T (fun w => made_any x0 x1 x2 w a0 a1 a2)
      (fun w => pick_any le 500 w (by omega) a3.1 a3.2) hl.1 (by omega) (fun w => pick_any mo 500 w (by omega) a4.1 a4.2) hm.1 (by omega) c1 c2 hb.1 hb.2.1 hb.2.2.1
      (fun w => madeRates_any z0 z1 w a5 a6) (fun w => pick_any sz 2 w (by omega) a7.1 a7.2) (fun w => partner_any (madeU x2) (decide (pickZ sz 2 = 0)) w hb.2.2.2.1 hb.2.2.2.2) (fun w => made_any y0 y1 y2 w a10 a11 a12)
      (fun w T => convert_any _ _ _ _ _ _ w T) (fun w T => convert_any _ _ _ _ _ _ w T) (fun w => step_any sz w a7.1 a7.2) (fun w T => coarse_any _ _ _ _ w T) (fun w T => coarse_any _ _ _ _ w T)
      (fun w => pick_any nn 1001 w (by omega) a8.1 a8.2) (fun w => pick_any dd 1000 w (by omega) a9.1 a9.2) hq.1 (by omega) (fun w T => share_any _ _ _ _ _ w T) (fun w T => share_any _ _ _ _ _ w T)
      (fun w T => add_any _ _ _ _ _ _ w T) (fun w T => add_any _ _ _ _ _ _ w T) (fun w T => lit_b m1 (contains_any _ _ _ _ _ _ w T)) ?_ ?_ ?_ ?_
    · exact (conv_mono _ m2 hk (by omega) (by omega) hr).imp id fun ⟨h1, h2, h3⟩ => ⟨h1, h2, fun w T => lit_b h3 (contains_any _ _ _ _ _ _ w T)⟩
    · exact (coarse_mono m2 hk (by omega) (by omega) hs).imp id fun ⟨h1, h2, h3⟩ => ⟨h1, h2, fun w T => lit_b h3 (contains_any _ _ _ _ _ _ w T)⟩
    · exact (share_mono m2 hk (by omega) (by omega) hp.1 (by omega) (by omega) (by omega)).imp id fun ⟨h1, h2, h3⟩ => ⟨h1, h2, fun w T => lit_b h3 (contains_any _ _ _ _ _ _ w T)⟩
    · exact (add_mono m2 hk (by omega) (by omega) ht).imp id fun ⟨h1, h2, h3⟩ => ⟨h1, h2, fun w T => lit_b h3 (contains_any _ _ _ _ _ _ w T)⟩
  · obtain ⟨m1, m2⟩ := main (madeLo x0 x1 x2 - pickZ le 500) 999999 (by omega) (by omega) (by omega) (by omega)
    refine monotone_c x0 x1 x2 le mo z0 z1 sz nn dd y0 y1 y2 _ _ _ _ _ _ _ _ (partnerZ (madeU x2) (decide (pickZ sz 2 = 0))) _ _ _ _ _ _ _ _ _ _ _ _ _ _ _ _ _ _ _ _ _ _ _ _ _ _ _ _ _ _ _ _ _ _ _ _ _ _ w T (fun w => made_any x0 x1 x2 w a0 a1 a2)
      (fun w => pick_any le 500 w (by omega) a3.1 a3.2) hl.1 (by omega) (fun w => pick_any mo 500 w (by omega) a4.1 a4.2) hm.1 (by omega) c1 (by omega) hb.1 hb.2.1 hb.2.2.1
      (fun w => madeRates_any z0 z1 w a5 a6) (fun w => pick_any sz 2 w (by omega) a7.1 a7.2) (fun w => partner_any (madeU x2) (decide (pickZ sz 2 = 0)) w hb.2.2.2.1 hb.2.2.2.2) (fun w => made_any y0 y1 y2 w a10 a11 a12)
      (fun w T => convert_any _ _ _ _ _ _ w T) (fun w T => convert_any _ _ _ _ _ _ w T) (fun w => step_any sz w a7.1 a7.2) (fun w T => coarse_any _ _ _ _ w T) (fun w T => coarse_any _ _ _ _ w T)
      (fun w => pick_any nn 1001 w (by omega) a8.1 a8.2) (fun w => pick_any dd 1000 w (by omega) a9.1 a9.2) hq.1 (by omega) (fun w T => share_any _ _ _ _ _ w T) (fun w T => share_any _ _ _ _ _ w T)
      (fun w T => add_any _ _ _ _ _ _ w T) (fun w T => add_any _ _ _ _ _ _ w T) (fun w T => lit_b m1 (contains_any _ _ _ _ _ _ w T)) ?_ ?_ ?_ ?_
    · exact (conv_mono _ m2 hk (by omega) (by omega) hr).imp id fun ⟨h1, h2, h3⟩ => ⟨h1, h2, fun w T => lit_b h3 (contains_any _ _ _ _ _ _ w T)⟩
    · exact (coarse_mono m2 hk (by omega) (by omega) hs).imp id fun ⟨h1, h2, h3⟩ => ⟨h1, h2, fun w T => lit_b h3 (contains_any _ _ _ _ _ _ w T)⟩
    · exact (share_mono m2 hk (by omega) (by omega) hp.1 (by omega) (by omega) (by omega)).imp id fun ⟨h1, h2, h3⟩ => ⟨h1, h2, fun w T => lit_b h3 (contains_any _ _ _ _ _ _ w T)⟩
    · exact (add_mono m2 hk (by omega) (by omega) ht).imp id fun ⟨h1, h2, h3⟩ => ⟨h1, h2, fun w T => lit_b h3 (contains_any _ _ _ _ _ _ w T)⟩
  · obtain ⟨m1, m2⟩ := main 0 (madeHi x0 x1 x2 + pickZ mo 500) (by omega) (by omega) (by omega) (by omega)
    refine monotone_b x0 x1 x2 le mo z0 z1 sz nn dd y0 y1 y2 _ _ _ _ _ _ _ _ (partnerZ (madeU x2) (decide (pickZ sz 2 = 0))) _ _ _ _ _ _ _ _ _ _ _ _ _ _ _ _ _ _ _ _ _ _ _ _ _ _ _ _ _ _ _ _ _ _ _ _ _ _ w T (fun w => made_any x0 x1 x2 w a0 a1 a2)
      (fun w => pick_any le 500 w (by omega) a3.1 a3.2) hl.1 (by omega) (fun w => pick_any mo 500 w (by omega) a4.1 a4.2) hm.1 (by omega) (by omega) c2 hb.1 hb.2.1 hb.2.2.1
      (fun w => madeRates_any z0 z1 w a5 a6) (fun w => pick_any sz 2 w (by omega) a7.1 a7.2) (fun w => partner_any (madeU x2) (decide (pickZ sz 2 = 0)) w hb.2.2.2.1 hb.2.2.2.2) (fun w => made_any y0 y1 y2 w a10 a11 a12)
      (fun w T => convert_any _ _ _ _ _ _ w T) (fun w T => convert_any _ _ _ _ _ _ w T) (fun w => step_any sz w a7.1 a7.2) (fun w T => coarse_any _ _ _ _ w T) (fun w T => coarse_any _ _ _ _ w T)
      (fun w => pick_any nn 1001 w (by omega) a8.1 a8.2) (fun w => pick_any dd 1000 w (by omega) a9.1 a9.2) hq.1 (by omega) (fun w T => share_any _ _ _ _ _ w T) (fun w T => share_any _ _ _ _ _ w T)
      (fun w T => add_any _ _ _ _ _ _ w T) (fun w T => add_any _ _ _ _ _ _ w T) (fun w T => lit_b m1 (contains_any _ _ _ _ _ _ w T)) ?_ ?_ ?_ ?_
    · exact (conv_mono _ m2 hk (by omega) (by omega) hr).imp id fun ⟨h1, h2, h3⟩ => ⟨h1, h2, fun w T => lit_b h3 (contains_any _ _ _ _ _ _ w T)⟩
    · exact (coarse_mono m2 hk (by omega) (by omega) hs).imp id fun ⟨h1, h2, h3⟩ => ⟨h1, h2, fun w T => lit_b h3 (contains_any _ _ _ _ _ _ w T)⟩
    · exact (share_mono m2 hk (by omega) (by omega) hp.1 (by omega) (by omega) (by omega)).imp id fun ⟨h1, h2, h3⟩ => ⟨h1, h2, fun w T => lit_b h3 (contains_any _ _ _ _ _ _ w T)⟩
    · exact (add_mono m2 hk (by omega) (by omega) ht).imp id fun ⟨h1, h2, h3⟩ => ⟨h1, h2, fun w T => lit_b h3 (contains_any _ _ _ _ _ _ w T)⟩
  · obtain ⟨m1, m2⟩ := main 0 999999 (by omega) (by omega) (by omega) (by omega)
    refine monotone_d x0 x1 x2 le mo z0 z1 sz nn dd y0 y1 y2 _ _ _ _ _ _ _ _ (partnerZ (madeU x2) (decide (pickZ sz 2 = 0))) _ _ _ _ _ _ _ _ _ _ _ _ _ _ _ _ _ _ _ _ _ _ _ _ _ _ _ _ _ _ _ _ _ _ _ _ _ _ w T (fun w => made_any x0 x1 x2 w a0 a1 a2)
      (fun w => pick_any le 500 w (by omega) a3.1 a3.2) hl.1 (by omega) (fun w => pick_any mo 500 w (by omega) a4.1 a4.2) hm.1 (by omega) (by omega) (by omega) hb.1 hb.2.1 hb.2.2.1
      (fun w => madeRates_any z0 z1 w a5 a6) (fun w => pick_any sz 2 w (by omega) a7.1 a7.2) (fun w => partner_any (madeU x2) (decide (pickZ sz 2 = 0)) w hb.2.2.2.1 hb.2.2.2.2) (fun w => made_any y0 y1 y2 w a10 a11 a12)
      (fun w T => convert_any _ _ _ _ _ _ w T) (fun w T => convert_any _ _ _ _ _ _ w T) (fun w => step_any sz w a7.1 a7.2) (fun w T => coarse_any _ _ _ _ w T) (fun w T => coarse_any _ _ _ _ w T)
      (fun w => pick_any nn 1001 w (by omega) a8.1 a8.2) (fun w => pick_any dd 1000 w (by omega) a9.1 a9.2) hq.1 (by omega) (fun w T => share_any _ _ _ _ _ w T) (fun w T => share_any _ _ _ _ _ w T)
      (fun w T => add_any _ _ _ _ _ _ w T) (fun w T => add_any _ _ _ _ _ _ w T) (fun w T => lit_b m1 (contains_any _ _ _ _ _ _ w T)) ?_ ?_ ?_ ?_
    · exact (conv_mono _ m2 hk (by omega) (by omega) hr).imp id fun ⟨h1, h2, h3⟩ => ⟨h1, h2, fun w T => lit_b h3 (contains_any _ _ _ _ _ _ w T)⟩
    · exact (coarse_mono m2 hk (by omega) (by omega) hs).imp id fun ⟨h1, h2, h3⟩ => ⟨h1, h2, fun w T => lit_b h3 (contains_any _ _ _ _ _ _ w T)⟩
    · exact (share_mono m2 hk (by omega) (by omega) hp.1 (by omega) (by omega) (by omega)).imp id fun ⟨h1, h2, h3⟩ => ⟨h1, h2, fun w T => lit_b h3 (contains_any _ _ _ _ _ _ w T)⟩
    · exact (add_mono m2 hk (by omega) (by omega) ht).imp id fun ⟨h1, h2, h3⟩ => ⟨h1, h2, fun w T => lit_b h3 (contains_any _ _ _ _ _ _ w T)⟩

namespace unitMonotone
theorem flat0 : leafsOf Tryd.prog 5 24 = some [some (some .i64), some (some .i64), some (some .i64)] := by kernel_rfl
theorem flat3 : leafsOf Tryd.prog 5 27 = some [some (some .i64), some (some .i64)] := by kernel_rfl
theorem flat7 : leafsOf Tryd.prog 5 24 = some [some (some .i64), some (some .i64), some (some .i64)] := by kernel_rfl
set_option maxRecDepth 100000 in
theorem contract (H : Type) (enc : TypeId × Value → H) (W : World) (base : Nat) (args : Array Value) (ds gs : List (DataW H)) (before : List MemPlace)
    (hval : ∀ (j : Nat) t v, Tryd.f6.params[j]? = some t → args[j]? = some v → Value.okWide Tryd.prog W .any base t v)
    (hW : DataW.Whole enc Tryd.prog Tryd.f6.params.toList Rows.unitMonotoneSpec.vars false W args.toList ds gs before) (hL : laidMetH Tryd.prog Rows.unitMonotoneRow.laid W) :
    Calls Tryd.prog 6 args W fun e W' => ∃ v, e = .returned v ∧ Rows.unitMonotoneSpec.post enc Tryd.prog Tryd.f6 false true false false W args v W' := by
  have hW' := hW
  obtain ⟨p, q, hA0, hV, rfl, hfz, hnd⟩ := hW
  have hA : DataW.TrodAll enc Tryd.prog W 0 (fun _ => true) true Tryd.f6.params.toList args.toList ds p := hA0
  rw [Tryd.params6] at hA hval
  obtain ⟨v0, vs0, d0, ds0, p0, q0, hargs, rfl, rfl, h0, r0⟩ := trodAll_cons hA
  obtain ⟨v1, vs1, d1, ds1, p1, q1, rfl, rfl, rfl, h1, r1⟩ := trodAll_cons r0
  obtain ⟨v2, vs2, d2, ds2, p2, q2, rfl, rfl, rfl, h2, r2⟩ := trodAll_cons r1
  obtain ⟨v3, vs3, d3, ds3, p3, q3, rfl, rfl, rfl, h3, r3⟩ := trodAll_cons r2
  obtain ⟨v4, vs4, d4, ds4, p4, q4, rfl, rfl, rfl, h4, r4⟩ := trodAll_cons r3
  obtain ⟨v5, vs5, d5, ds5, p5, q5, rfl, rfl, rfl, h5, r5⟩ := trodAll_cons r4
  obtain ⟨v6, vs6, d6, ds6, p6, q6, rfl, rfl, rfl, h6, r6⟩ := trodAll_cons r5
  obtain ⟨v7, vs7, d7, ds7, p7, q7, rfl, rfl, rfl, h7, r7⟩ := trodAll_cons r6
  obtain ⟨rfl, rfl, rfl⟩ := trodAll_nil r7
  obtain rfl : args = #[v0, v1, v2, v3, v4, v5, v6, v7] := by cases args; simp_all
  obtain ⟨cs0, rfl, c0x0, rs0x0, rfl, ⟨a0, rfl, k0⟩, c0x1, rs0x1, rfl, ⟨a1, rfl, k1⟩, c0x2, rs0x2, rfl, ⟨a2, rfl, k2⟩, rfl⟩ := open_agg 5 flat0 (by kernel_rfl) (hval 0 _ _ rfl rfl) h0
  obtain ⟨a3, rfl, rfl, rfl, k3⟩ := open_int Tryd.underlying3 (hval 1 _ _ rfl rfl) h1
  obtain ⟨a4, rfl, rfl, rfl, k4⟩ := open_int Tryd.underlying3 (hval 2 _ _ rfl rfl) h2
  obtain ⟨cs3, rfl, c3x0, rs3x0, rfl, ⟨a5, rfl, k5⟩, c3x1, rs3x1, rfl, ⟨a6, rfl, k6⟩, rfl⟩ := open_agg 5 flat3 (by kernel_rfl) (hval 3 _ _ rfl rfl) h3
  obtain ⟨a7, rfl, rfl, rfl, k7⟩ := open_int Tryd.underlying3 (hval 4 _ _ rfl rfl) h4
  obtain ⟨a8, rfl, rfl, rfl, k8⟩ := open_int Tryd.underlying3 (hval 5 _ _ rfl rfl) h5
  obtain ⟨a9, rfl, rfl, rfl, k9⟩ := open_int Tryd.underlying3 (hval 6 _ _ rfl rfl) h6
  obtain ⟨cs7, rfl, c7x0, rs7x0, rfl, ⟨a10, rfl, k10⟩, c7x1, rs7x1, rfl, ⟨a11, rfl, k11⟩, c7x2, rs7x2, rfl, ⟨a12, rfl, k12⟩, rfl⟩ := open_agg 5 flat7 (by kernel_rfl) (hval 7 _ _ rfl rfl) h7
  refine (unitMonotone_any a0 a1 a2 a3 a4 a5 a6 a7 a8 a9 a10 a11 a12 W (tab hL) (bd_i64 k0) (bd_i64 k1) (bd_i64 k2) (bd_i64 k3) (bd_i64 k4) (bd_i64 k5) (bd_i64 k6) (bd_i64 k7) (bd_i64 k8) (bd_i64 k9) (bd_i64 k10) (bd_i64 k11) (bd_i64 k12)).mono fun e W' ⟨he, hb⟩ => ?_
  subst he
  obtain ⟨rfl, _⟩ := trodVars_none hV
  exact ⟨_, rfl, law_post laidOut (by kernel_rfl) rfl (by kernel_rfl) Tryd.underlying4 hW' rfl hb⟩

def args0 : Array Value := #[.agg #[.int .i64 0, .int .i64 0, .int .i64 0], .int .i64 0, .int .i64 0, .agg #[.int .i64 0, .int .i64 0], .int .i64 0, .int .i64 0, .int .i64 0, .agg #[.int .i64 0, .int .i64 0, .int .i64 0]]
theorem laid_met (os : Os) : laidMet Tryd.prog Rows.unitMonotoneRow.laid ((laidWorld os).forCall (fun _ _ => 0) ⟨#[], args0, []⟩).memory :=
  laidMet_of_run' 8 (by kernel_rfl) (by kernel_rfl)
theorem reads (os : Os) {H : Type} (enc : TypeId × Value → H) : ∃ places, DataW.whole enc Tryd.prog ((laidWorld os).forCall (fun _ _ => 0) ⟨#[], args0, []⟩).memory Tryd.f6.params.toList Rows.unitMonotoneSpec.vars false args0.toList 8 = some ([.agg [.lit (.int .i64 0), .lit (.int .i64 0), .lit (.int .i64 0)], .lit (.int .i64 0), .lit (.int .i64 0), .agg [.lit (.int .i64 0), .lit (.int .i64 0)], .lit (.int .i64 0), .lit (.int .i64 0), .lit (.int .i64 0), .agg [.lit (.int .i64 0), .lit (.int .i64 0), .lit (.int .i64 0)]], [], places) :=
  ⟨[], by kernel_rfl⟩

set_option maxRecDepth 100000 in
theorem lifted (os : Os) (started : os.Started) (H : Type) (enc : TypeId × Value → H) (F : Stop.Interp) :
    ReturnsInHanded {} Tryd.checked os 6 .any ((OpenSpec.ofChange Rows.unitMonotoneSpec).preRow enc Tryd.prog Tryd.f6 Rows.unitMonotoneRow.domain false Rows.unitMonotoneRow.laid) (((OpenSpec.ofChange Rows.unitMonotoneSpec).at F).post enc Tryd.prog Tryd.f6 false true false false) := by
  obtain ⟨places, hx⟩ := reads os enc
  refine returnsInHanded_of_row (C := Tryd.checked) (s := OpenSpec.ofChange Rows.unitMonotoneSpec) own started (by kernel_rfl) Tryd.func6
    (witness_row_at (enc := enc) (C := Tryd.checked) false (laidWorld os) args0 rfl (by kernel_rfl) (by kernel_rfl) (by kernel_rfl)
      (OpenSpec.preRow_of_cond 8 hx (by kernel_rfl) (fun k hk => by cases hk) (by kernel_rfl) (laid_met os))) ?_
  intro W base args ds gs before hval hW _ _ _ hL _ _
  exact contract H enc W base args ds gs before hval hW hL

theorem said : Rows.UnitMonotoneSaid :=
  OpenClaim.holds_of_cond 6 Tryd.f6 rfl rfl rfl rfl rfl rfl rfl ⟨rfl, rfl, rfl, rfl, rfl⟩ rfl rfl rfl rfl rfl (by kernel_rfl) Tryd.func6 (by kernel_rfl)
    (of_decide_eq_true (by kernel_rfl)) (by unfold Func.isWrapper; first | (rw [if_pos (by decide +kernel)]; kernel_rfl) | (rw [if_neg (by decide +kernel)]; exact ⟨rfl, rfl⟩))
    (fun os started H enc _ F => by rw [OpenClaim.pre_eq_preRow]; exact lifted os started H enc F)

theorem plain (f : FuncId) (fn : Func) (hf : Tryd.pinned.checked.prog.funcNamed "newswire/newswirelaw05.UnitMonotone" = some f) (hfn : Tryd.pinned.checked.prog.funcs[f]? = some fn) :
    false = Tryd.pinned.checked.prog.looks [] ∧ ∀ (j : Nat) t, fn.params[j]? = some t → Tryd.pinned.checked.prog.wantsStandIn t = false := by
  obtain rfl : f = 6 := Option.some.inj ((show Tryd.prog.funcNamed "newswire/newswirelaw05.UnitMonotone" = some 6 by kernel_rfl).symm.trans hf) |>.symm
  obtain rfl : fn = Tryd.f6 := (Option.some.inj (Tryd.func6.symm.trans hfn)).symm
  refine ⟨by kernel_rfl, fun j t ht => ?_⟩
  have all : (Tryd.f6.params.toList.all fun t => Tryd.prog.wantsStandIn t == false) = true := by kernel_rfl
  have := List.all_eq_true.1 all t (by rw [← Array.mem_def]; exact Array.mem_of_getElem? ht)
  exact (show Tryd.prog.wantsStandIn t = false by simpa using this)

/-- The statement. -/
theorem card : Rows.UnitMonotoneCardSaid :=
  Claim7.holds_tied_plain_at .later [] _ _ _ _ said (fun _ h => by cases h) (by kernel_rfl) (fun _ h => by cases h) unitMonotone_row_tie rfl ⟨rfl, rfl⟩ (by kernel_rfl) rfl plain (by kernel_rfl)
end unitMonotone
end Go.Proofs.YtdldokhiefeloaaDoor
