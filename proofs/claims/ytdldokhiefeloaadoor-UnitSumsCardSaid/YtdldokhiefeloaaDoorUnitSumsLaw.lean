/- For every input, UnitSums returns true and leaves its arguments as they were; the table of units holds what the program's text lays. -/
import Derived.Test.YtdldokhiefeloaaDoorUnitSumsA
import Derived.Test.YtdldokhiefeloaaDoorUnitSumsB
import Derived.Test.YtdldokhiefeloaaDoorUnitFrame
namespace Go.Proofs.YtdldokhiefeloaaDoor
open Go.RowKit Go.ChangeShapes Go.WideShapes Go.ChangeAt

theorem unitSums_any (x0 x1 x2 y0 y1 y2 z0 z1 z2 r0 r1 : Int) (w : World) (T : Tab w) (a0 : -9223372036854775808 ≤ x0 ∧ x0 ≤ 9223372036854775807) (a1 : -9223372036854775808 ≤ x1 ∧ x1 ≤ 9223372036854775807) (a2 : -9223372036854775808 ≤ x2 ∧ x2 ≤ 9223372036854775807) (a3 : -9223372036854775808 ≤ y0 ∧ y0 ≤ 9223372036854775807) (a4 : -9223372036854775808 ≤ y1 ∧ y1 ≤ 9223372036854775807) (a5 : -9223372036854775808 ≤ y2 ∧ y2 ≤ 9223372036854775807) (a6 : -9223372036854775808 ≤ z0 ∧ z0 ≤ 9223372036854775807) (a7 : -9223372036854775808 ≤ z1 ∧ z1 ≤ 9223372036854775807) (a8 : -9223372036854775808 ≤ z2 ∧ z2 ≤ 9223372036854775807) (a9 : -9223372036854775808 ≤ r0 ∧ r0 ≤ 9223372036854775807) (a10 : -9223372036854775808 ≤ r1 ∧ r1 ≤ 9223372036854775807) :
    Calls Tryd.prog 7 #[.agg #[.int .i64 x0, .int .i64 x1, .int .i64 x2], .agg #[.int .i64 y0, .int .i64 y1, .int .i64 y2], .agg #[.int .i64 z0, .int .i64 z1, .int .i64 z2], .agg #[.int .i64 r0, .int .i64 r1]] w fun r w' => r = .returned (.bool true) ∧ Below w.heap.size w w' := by
  have hb := made_bd x0 x1 x2
  have hb2 := made_bd y0 y1 y2
  have hb3 := made_bd z0 z1 z2
  have M1 := fun w => made_any x0 x1 x2 w a0 a1 a2
  have M2 := fun w => made_any y0 y1 y2 w a3 a4 a5
  have M3 := fun w => made_any z0 z1 z2 w a6 a7 a8
  have MR := fun w => madeRates_any r0 r1 w a9 a10
  have hr := rates_ok r0 r1
  generalize madeLo x0 x1 x2 = a at *
  generalize madeHi x0 x1 x2 = b at *
  generalize madeU x2 = u at *
  generalize madeLo y0 y1 y2 = x at *
  generalize madeHi y0 y1 y2 = y at *
  generalize madeU y2 = ux at *
  generalize madeLo z0 z1 z2 = c at *
  generalize madeHi z0 z1 z2 = d at *
  generalize madeU z2 = uc at *
  generalize rateZ r0 = rc at *
  generalize rateZ r1 = re at *
  have ha : knownB a b u = true := (knownB_iff _ _ _).2 (by omega)
  have hx : knownB x y u = true := (knownB_iff _ _ _).2 (by omega)
  have hc : knownB c d u = true := (knownB_iff _ _ _).2 (by omega)
  have P := fun w => partner_any u true w hb.2.2.2.1 hb.2.2.2.2
  obtain ⟨ea, casesA⟩ := add_math ha hx
  obtain ⟨em, eo, casesM⟩ := meet_math ha hx
  have casesB := (add_math hx hc).2
  have casesN := (meet_math hx hc).2.2
  rcases q1 : addR a b u x y u with ⟨l1, h1, v1, e1⟩
  rcases q3 : addR x y u c d u with ⟨l3, h3, v3, e3⟩
  rcases q5 : convR a b u (partnerZ u true) rc re with ⟨l5, h5, v5, e5⟩
  rcases q6 : convR x y u (partnerZ u true) rc re with ⟨l6, h6, v6, e6⟩
  rcases q7 : convR l1 h1 v1 (partnerZ u true) rc re with ⟨l7, h7, v7, e7⟩
  rcases q8 : addR l5 h5 v5 l6 h6 v6 with ⟨l8, h8, v8, e8⟩
  rcases q9 : meetR a b u x y u with ⟨l9, h9, v9, e9⟩
  have g9 : (e9 = 50 ∧ min b y < max a x) ∨ (e9 = 0 ∧ max a x ≤ min b y ∧ ∃ l12 h12 u12 e12 l13 h13 u13 e13,
      (∀ w, Tab w → Calls Tryd.prog 19 #[.agg #[.int .i64 l9, .int .i64 h9, .int .i64 v9], .agg #[.int .i64 c, .int .i64 d, .int .i64 u]] w fun r w' => r = .returned (.tuple #[.agg #[.int .i64 l12, .int .i64 h12, .int .i64 u12], .int .i64 e12]) ∧ Below w.heap.size w w') ∧
      (∀ w, Tab w → Calls Tryd.prog 19 #[.agg #[.int .i64 x, .int .i64 y, .int .i64 u], .agg #[.int .i64 c, .int .i64 d, .int .i64 u]] w fun r w' => r = .returned (.tuple #[.agg #[.int .i64 l13, .int .i64 h13, .int .i64 u13], .int .i64 e13]) ∧ Below w.heap.size w w') ∧
      (e13 = 50 ∨ (e13 = 0 ∧ (∀ w, Tab w → Calls Tryd.prog 19 #[.agg #[.int .i64 a, .int .i64 b, .int .i64 u], .agg #[.int .i64 l13, .int .i64 h13, .int .i64 u13]] w fun r w' => r = .returned (.tuple #[.agg #[.int .i64 l12, .int .i64 h12, .int .i64 u12], .int .i64 e12]) ∧ Below w.heap.size w w'))) ∧
      (∀ w, Tab w → Calls Tryd.prog 21 #[.agg #[.int .i64 a, .int .i64 b, .int .i64 u], .agg #[.int .i64 l9, .int .i64 h9, .int .i64 v9]] w fun r w' => r = .returned (.bool true) ∧ Below w.heap.size w w') ∧
      (∀ w, Tab w → Calls Tryd.prog 21 #[.agg #[.int .i64 x, .int .i64 y, .int .i64 u], .agg #[.int .i64 l9, .int .i64 h9, .int .i64 v9]] w fun r w' => r = .returned (.bool true) ∧ Below w.heap.size w w') ∧
      ((∀ w, Tab w → Calls Tryd.prog 21 #[.agg #[.int .i64 a, .int .i64 b, .int .i64 u], .agg #[.int .i64 c, .int .i64 d, .int .i64 u]] w fun r w' => r = .returned (.bool false) ∧ Below w.heap.size w w') ∨
       ((∀ w, Tab w → Calls Tryd.prog 21 #[.agg #[.int .i64 a, .int .i64 b, .int .i64 u], .agg #[.int .i64 c, .int .i64 d, .int .i64 u]] w fun r w' => r = .returned (.bool true) ∧ Below w.heap.size w w') ∧
        (∀ w, Tab w → Calls Tryd.prog 21 #[.agg #[.int .i64 x, .int .i64 y, .int .i64 u], .agg #[.int .i64 c, .int .i64 d, .int .i64 u]] w fun r w' => r = .returned (.bool false) ∧ Below w.heap.size w w')) ∨
       ((∀ w, Tab w → Calls Tryd.prog 21 #[.agg #[.int .i64 a, .int .i64 b, .int .i64 u], .agg #[.int .i64 c, .int .i64 d, .int .i64 u]] w fun r w' => r = .returned (.bool true) ∧ Below w.heap.size w w') ∧
        (∀ w, Tab w → Calls Tryd.prog 21 #[.agg #[.int .i64 x, .int .i64 y, .int .i64 u], .agg #[.int .i64 c, .int .i64 d, .int .i64 u]] w fun r w' => r = .returned (.bool true) ∧ Below w.heap.size w w') ∧
        (∀ w, Tab w → Calls Tryd.prog 21 #[.agg #[.int .i64 l9, .int .i64 h9, .int .i64 v9], .agg #[.int .i64 c, .int .i64 d, .int .i64 u]] w fun r w' => r = .returned (.bool true) ∧ Below w.heap.size w w')))) := by
    rcases casesM with ⟨m1, m2, m3⟩ | ⟨m1, m2⟩
    · rw [q9] at m2
      obtain ⟨rfl, rfl, rfl, rfl⟩ := Res.mk.inj m2
      obtain ⟨c1, c2, c3⟩ := meet_greatest ha hx hc m1
      rcases q12 : meetR (max a x) (min b y) v9 c d v9 with ⟨l12, h12, v12, e12⟩
      rcases q13 : meetR x y v9 c d v9 with ⟨l13, h13, v13, e13⟩
      refine .inr ⟨rfl, m1, l12, h12, v12, e12, l13, h13, v13, e13, fun w T => lit_res q12 (meet_any _ _ _ _ _ _ w T), fun w T => lit_res q13 (meet_any _ _ _ _ _ _ w T), ?_, fun w T => lit_b c1 (contains_any _ _ _ _ _ _ w T), fun w T => lit_b c2 (contains_any _ _ _ _ _ _ w T), ?_⟩
      · rcases casesN with ⟨n1, n2, n3⟩ | ⟨n1, n2⟩
        · rw [q13] at n2
          obtain ⟨rfl, rfl, rfl, rfl⟩ := Res.mk.inj n2
          refine .inr ⟨rfl, fun w T => lit_res ?_ (meet_any _ _ _ _ _ _ w T)⟩
          rw [← meet_assoc_math ha hx hc m1 n1, q12]
        · rw [q13] at n2
          exact .inl (Res.mk.inj n2).2.2.2
      · cases f1 : containsB a b v9 c d v9
        · exact .inl fun w T => lit_b f1 (contains_any _ _ _ _ _ _ w T)
        · cases f2 : containsB x y v9 c d v9
          · exact .inr (.inl ⟨fun w T => lit_b f1 (contains_any _ _ _ _ _ _ w T), fun w T => lit_b f2 (contains_any _ _ _ _ _ _ w T)⟩)
          · rw [f1, f2] at c3
            refine .inr (.inr ⟨fun w T => lit_b f1 (contains_any _ _ _ _ _ _ w T), fun w T => lit_b f2 (contains_any _ _ _ _ _ _ w T), fun w T => lit_b ?_ (contains_any _ _ _ _ _ _ w T)⟩)
            rcases c3 with c3 | c3 | c3
            · cases c3
            · cases c3
            · exact c3
    · rw [q9] at m2
      exact .inl ⟨(Res.mk.inj m2).2.2.2, m1⟩
  rcases casesA with ⟨s1, s2, s3⟩ | ⟨s1, s2⟩
  · refine sums_walkB x0 x1 x2 y0 y1 y2 z0 z1 z2 r0 r1 a b x y ux c d uc u rc re (partnerZ u true) l1 h1 v1 e1 l3 h3 v3 e3 l5 h5 v5 e5 l6 h6 v6 e6 l7 h7 v7 e7 l8 h8 v8 e8 l9 h9 v9 e9 w T M1 M2 M3 MR P
      (fun w T => lit_res q1 (add_any _ _ _ _ _ _ w T)) (fun w T => lit_res (ea ▸ q1) (add_any _ _ _ _ _ _ w T)) (fun w T => lit_res q3 (add_any _ _ _ _ _ _ w T)) (fun w T => lit_res q5 (convert_any _ _ _ _ _ _ w T)) (fun w T => lit_res q6 (convert_any _ _ _ _ _ _ w T)) (fun w T => lit_res q7 (convert_any _ _ _ _ _ _ w T))
      (fun w T => lit_res q8 (add_any _ _ _ _ _ _ w T)) (fun w T => lit_res q9 (meet_any _ _ _ _ _ _ w T)) (fun w T => lit_res (em ▸ q9) (meet_any _ _ _ _ _ _ w T)) (fun w T => lit_res eo (meet_any _ _ _ _ _ _ w T)) ?_ g9 (by omega) (by omega) (by omega) (by omega)
    clear g9
    rw [q1] at s2
    obtain ⟨rfl, rfl, rfl, rfl⟩ := Res.mk.inj s2
    refine ⟨rfl, s1, ?_, ?_⟩
    · rcases casesB with ⟨t1, t2, t3⟩ | ⟨t1, t2⟩
      · rw [q3] at t2
        obtain ⟨rfl, rfl, rfl, rfl⟩ := Res.mk.inj t2
        rcases q4 : addR (a + x) (b + y) v3 c d v3 with ⟨L, H, U, E⟩
        exact .inr ⟨rfl, L, H, U, E, fun w T => lit_res q4 (add_any _ _ _ _ _ _ w T), fun w T => lit_res (by rw [← add_assoc_math ha hx hc s1 t1, q4]) (add_any _ _ _ _ _ _ w T)⟩
      · rw [q3] at t2
        exact .inl (Res.mk.inj t2).2.2.2
    · rcases conv_sum ha hx hr s1 q5 q6 q7 q8 with h | ⟨h, h'⟩ | ⟨h, h', h''⟩ | ⟨h, h', h'', h3, h4⟩
      · exact .inl h
      · exact .inr ⟨h, .inl h'⟩
      · exact .inr ⟨h, .inr ⟨h', .inl h''⟩⟩
      · exact .inr ⟨h, .inr ⟨h', .inr ⟨h'', h3, fun w T => lit_b h4 (contains_any _ _ _ _ _ _ w T)⟩⟩⟩
  · refine sums_walkA x0 x1 x2 y0 y1 y2 z0 z1 z2 r0 r1 a b x y ux c d uc u rc re (partnerZ u true) l1 h1 v1 e1 l3 h3 v3 e3 l5 h5 v5 e5 l6 h6 v6 e6 l7 h7 v7 e7 l8 h8 v8 e8 l9 h9 v9 e9 w T M1 M2 M3 MR P
      (fun w T => lit_res q1 (add_any _ _ _ _ _ _ w T)) (fun w T => lit_res (ea ▸ q1) (add_any _ _ _ _ _ _ w T)) (fun w T => lit_res q3 (add_any _ _ _ _ _ _ w T)) (fun w T => lit_res q5 (convert_any _ _ _ _ _ _ w T)) (fun w T => lit_res q6 (convert_any _ _ _ _ _ _ w T)) (fun w T => lit_res q7 (convert_any _ _ _ _ _ _ w T))
      (fun w T => lit_res q8 (add_any _ _ _ _ _ _ w T)) (fun w T => lit_res q9 (meet_any _ _ _ _ _ _ w T)) (fun w T => lit_res (em ▸ q9) (meet_any _ _ _ _ _ _ w T)) (fun w T => lit_res eo (meet_any _ _ _ _ _ _ w T)) ⟨?_, s1⟩ g9 (by omega) (by omega) (by omega) (by omega)
    rw [q1] at s2
    exact (Res.mk.inj s2).2.2.2

namespace unitSums
theorem flat0 : leafsOf Tryd.prog 5 24 = some [some (some .i64), some (some .i64), some (some .i64)] := by kernel_rfl
theorem flat1 : leafsOf Tryd.prog 5 24 = some [some (some .i64), some (some .i64), some (some .i64)] := by kernel_rfl
theorem flat2 : leafsOf Tryd.prog 5 24 = some [some (some .i64), some (some .i64), some (some .i64)] := by kernel_rfl
theorem flat3 : leafsOf Tryd.prog 5 27 = some [some (some .i64), some (some .i64)] := by kernel_rfl
set_option maxRecDepth 100000 in
theorem contract (H : Type) (enc : TypeId × Value → H) (W : World) (base : Nat) (args : Array Value) (ds gs : List (DataW H)) (before : List MemPlace)
    (hval : ∀ (j : Nat) t v, Tryd.f7.params[j]? = some t → args[j]? = some v → Value.okWide Tryd.prog W .any base t v)
    (hW : DataW.Whole enc Tryd.prog Tryd.f7.params.toList Rows.unitSumsSpec.vars false W args.toList ds gs before) (hL : laidMetH Tryd.prog Rows.unitSumsRow.laid W) :
    Calls Tryd.prog 7 args W fun e W' => ∃ v, e = .returned v ∧ Rows.unitSumsSpec.post enc Tryd.prog Tryd.f7 false true false false W args v W' := by
  have hW' := hW
  obtain ⟨p, q, hA0, hV, rfl, hfz, hnd⟩ := hW
  have hA : DataW.TrodAll enc Tryd.prog W 0 (fun _ => true) true Tryd.f7.params.toList args.toList ds p := hA0
  rw [Tryd.params7] at hA hval
  obtain ⟨v0, vs0, d0, ds0, p0, q0, hargs, rfl, rfl, h0, r0⟩ := trodAll_cons hA
  obtain ⟨v1, vs1, d1, ds1, p1, q1, rfl, rfl, rfl, h1, r1⟩ := trodAll_cons r0
  obtain ⟨v2, vs2, d2, ds2, p2, q2, rfl, rfl, rfl, h2, r2⟩ := trodAll_cons r1
  obtain ⟨v3, vs3, d3, ds3, p3, q3, rfl, rfl, rfl, h3, r3⟩ := trodAll_cons r2
  obtain ⟨rfl, rfl, rfl⟩ := trodAll_nil r3
  obtain rfl : args = #[v0, v1, v2, v3] := by cases args; simp_all
  obtain ⟨cs0, rfl, c0x0, rs0x0, rfl, ⟨a0, rfl, k0⟩, c0x1, rs0x1, rfl, ⟨a1, rfl, k1⟩, c0x2, rs0x2, rfl, ⟨a2, rfl, k2⟩, rfl⟩ := open_agg 5 flat0 (by kernel_rfl) (hval 0 _ _ rfl rfl) h0
  obtain ⟨cs1, rfl, c1x0, rs1x0, rfl, ⟨a3, rfl, k3⟩, c1x1, rs1x1, rfl, ⟨a4, rfl, k4⟩, c1x2, rs1x2, rfl, ⟨a5, rfl, k5⟩, rfl⟩ := open_agg 5 flat1 (by kernel_rfl) (hval 1 _ _ rfl rfl) h1
  obtain ⟨cs2, rfl, c2x0, rs2x0, rfl, ⟨a6, rfl, k6⟩, c2x1, rs2x1, rfl, ⟨a7, rfl, k7⟩, c2x2, rs2x2, rfl, ⟨a8, rfl, k8⟩, rfl⟩ := open_agg 5 flat2 (by kernel_rfl) (hval 2 _ _ rfl rfl) h2
  obtain ⟨cs3, rfl, c3x0, rs3x0, rfl, ⟨a9, rfl, k9⟩, c3x1, rs3x1, rfl, ⟨a10, rfl, k10⟩, rfl⟩ := open_agg 5 flat3 (by kernel_rfl) (hval 3 _ _ rfl rfl) h3
  refine (unitSums_any a0 a1 a2 a3 a4 a5 a6 a7 a8 a9 a10 W (tab hL) (bd_i64 k0) (bd_i64 k1) (bd_i64 k2) (bd_i64 k3) (bd_i64 k4) (bd_i64 k5) (bd_i64 k6) (bd_i64 k7) (bd_i64 k8) (bd_i64 k9) (bd_i64 k10)).mono fun e W' ⟨he, hb⟩ => ?_
  subst he
  obtain ⟨rfl, _⟩ := trodVars_none hV
  exact ⟨_, rfl, law_post laidOut (by kernel_rfl) rfl (by kernel_rfl) Tryd.underlying4 hW' rfl hb⟩

def args0 : Array Value := #[.agg #[.int .i64 0, .int .i64 0, .int .i64 0], .agg #[.int .i64 0, .int .i64 0, .int .i64 0], .agg #[.int .i64 0, .int .i64 0, .int .i64 0], .agg #[.int .i64 0, .int .i64 0]]
theorem laid_met (os : Os) : laidMet Tryd.prog Rows.unitSumsRow.laid ((laidWorld os).forCall (fun _ _ => 0) ⟨#[], args0, []⟩).memory :=
  laidMet_of_run' 8 (by kernel_rfl) (by kernel_rfl)
theorem reads (os : Os) {H : Type} (enc : TypeId × Value → H) : ∃ places, DataW.whole enc Tryd.prog ((laidWorld os).forCall (fun _ _ => 0) ⟨#[], args0, []⟩).memory Tryd.f7.params.toList Rows.unitSumsSpec.vars false args0.toList 8 = some ([.agg [.lit (.int .i64 0), .lit (.int .i64 0), .lit (.int .i64 0)], .agg [.lit (.int .i64 0), .lit (.int .i64 0), .lit (.int .i64 0)], .agg [.lit (.int .i64 0), .lit (.int .i64 0), .lit (.int .i64 0)], .agg [.lit (.int .i64 0), .lit (.int .i64 0)]], [], places) :=
  ⟨[], by kernel_rfl⟩

set_option maxRecDepth 100000 in
theorem lifted (os : Os) (started : os.Started) (H : Type) (enc : TypeId × Value → H) (F : Stop.Interp) :
    ReturnsInHanded {} Tryd.checked os 7 .any ((OpenSpec.ofChange Rows.unitSumsSpec).preRow enc Tryd.prog Tryd.f7 Rows.unitSumsRow.domain false Rows.unitSumsRow.laid) (((OpenSpec.ofChange Rows.unitSumsSpec).at F).post enc Tryd.prog Tryd.f7 false true false false) := by
  obtain ⟨places, hx⟩ := reads os enc
  refine returnsInHanded_of_row (C := Tryd.checked) (s := OpenSpec.ofChange Rows.unitSumsSpec) own started (by kernel_rfl) Tryd.func7
    (witness_row_at (enc := enc) (C := Tryd.checked) false (laidWorld os) args0 rfl (by kernel_rfl) (by kernel_rfl) (by kernel_rfl)
      (OpenSpec.preRow_of_cond 8 hx (by kernel_rfl) (fun k hk => by cases hk) (by kernel_rfl) (laid_met os))) ?_
  intro W base args ds gs before hval hW _ _ _ hL _ _
  exact contract H enc W base args ds gs before hval hW hL

theorem said : Rows.UnitSumsSaid :=
  OpenClaim.holds_of_cond 7 Tryd.f7 rfl rfl rfl rfl rfl rfl rfl ⟨rfl, rfl, rfl, rfl, rfl⟩ rfl rfl rfl rfl rfl (by kernel_rfl) Tryd.func7 (by kernel_rfl)
    (of_decide_eq_true (by kernel_rfl)) (by unfold Func.isWrapper; first | (rw [if_pos (by decide +kernel)]; kernel_rfl) | (rw [if_neg (by decide +kernel)]; exact ⟨rfl, rfl⟩))
    (fun os started H enc _ F => by rw [OpenClaim.pre_eq_preRow]; exact lifted os started H enc F)

theorem plain (f : FuncId) (fn : Func) (hf : Tryd.pinned.checked.prog.funcNamed "newswire/newswirelaw05.UnitSums" = some f) (hfn : Tryd.pinned.checked.prog.funcs[f]? = some fn) :
    false = Tryd.pinned.checked.prog.looks [] ∧ ∀ (j : Nat) t, fn.params[j]? = some t → Tryd.pinned.checked.prog.wantsStandIn t = false := by
  obtain rfl : f = 7 := Option.some.inj ((show Tryd.prog.funcNamed "newswire/newswirelaw05.UnitSums" = some 7 by kernel_rfl).symm.trans hf) |>.symm
  obtain rfl : fn = Tryd.f7 := (Option.some.inj (Tryd.func7.symm.trans hfn)).symm
  refine ⟨by kernel_rfl, fun j t ht => ?_⟩
  have all : (Tryd.f7.params.toList.all fun t => Tryd.prog.wantsStandIn t == false) = true := by kernel_rfl
  have := List.all_eq_true.1 all t (by rw [← Array.mem_def]; exact Array.mem_of_getElem? ht)
  exact (show Tryd.prog.wantsStandIn t = false by simpa using this)

/-- The statement. -/
theorem card : Rows.UnitSumsCardSaid :=
  Claim7.holds_tied_plain_at .later [] _ _ _ _ said (fun _ h => by cases h) (by kernel_rfl) (fun _ h => by cases h) unitSums_row_tie rfl ⟨rfl, rfl⟩ (by kernel_rfl) rfl plain (by kernel_rfl)
end unitSums
end Go.Proofs.YtdldokhiefeloaaDoor
