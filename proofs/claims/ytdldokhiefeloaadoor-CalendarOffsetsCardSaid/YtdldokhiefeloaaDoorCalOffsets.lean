/- For every input, CalendarOffsets returns true and leaves its arguments as they were; the tables hold what the program's text lays. -/
import Derived.Test.YtdldokhiefeloaaDoorCalX
namespace Go.Proofs.YtdldokhiefeloaaDoor
open Go.RowKit Go.ChangeShapes Go.WideShapes Go.ChangeAt

set_option maxRecDepth 100000 in
set_option maxHeartbeats 4000000 in
theorem offsets_walk (x1 x2 x3 m0 o0 p0 m o p N a1 a2 a3 a4 a5 a6 c1 c2 c3 c4 c5 c6 : Int) (w : World) (T : CW w)
    (hm : m = 2000 + m0) (ho : o = o0 - 840) (hp : p = p0 - 840) (bm : 0 ≤ m0 ∧ m0 < 49996000) (bo : 0 ≤ o0 ∧ o0 < 1681) (bp : 0 ≤ p0 ∧ p0 < 1681)
    (HM : ∀ w, Calls Tryd.prog 42 #[.int .i64 x1, .int .i64 49996000] w fun e w' => e = .returned (.int .i64 m0) ∧ w = w')
    (HO : ∀ w, Calls Tryd.prog 42 #[.int .i64 x2, .int .i64 1681] w fun e w' => e = .returned (.int .i64 o0) ∧ w = w')
    (HP : ∀ w, Calls Tryd.prog 42 #[.int .i64 x3, .int .i64 1681] w fun e w' => e = .returned (.int .i64 p0) ∧ w = w')
    (HA : ∀ w, CTab w → Calls Tryd.prog 43 #[.int .i64 m, .int .i64 p] w fun r w' => r = .returned (.tuple #[civV a1 a2 a3 a4 a5 a6, .int .i64 0]) ∧ Below w.heap.size w w')
    (HB : ∀ w, CTab w → Calls Tryd.prog 43 #[.int .i64 (m + p - o), .int .i64 o] w fun r w' => r = .returned (.tuple #[civV a1 a2 a3 a4 a5 a6, .int .i64 0]) ∧ Below w.heap.size w w')
    (HC : ∀ w, CTab w → Calls Tryd.prog 43 #[.int .i64 m, .int .i64 o] w fun r w' => r = .returned (.tuple #[civV c1 c2 c3 c4 c5 c6, .int .i64 0]) ∧ Below w.heap.size w w')
    (HN : ∀ w, CTab w → Calls Tryd.prog 47 #[civV a1 a2 a3 a4 a5 a6, .int .i64 o] w fun r w' => r = .returned (.tuple #[.int .i64 N, .int .i64 0]) ∧ Below w.heap.size w w')
    (hN : 0 ≤ N ∧ N ≤ 50000000) (eN : (N - m == p - o) = true) (ha : 0 ≤ a6 ∧ a6 < 7) (hc : 0 ≤ c6 ∧ c6 < 7)
    (hd : decide ((a6 - c6) % 7 ≤ 2) = true ∨ (decide ((a6 - c6) % 7 ≤ 2) = false ∧ decide (5 ≤ (a6 - c6) % 7) = true)) :
    Calls Tryd.prog 13 #[.int .i64 x1, .int .i64 x2, .int .i64 x3] w fun r w' => r = .returned (.bool true) ∧ Below w.heap.size w w' := by
  have HT := Lib.hid T
  have BB := Lib.hid (Below.refl w.heap.size w)
  have GM := Lib.hid HM
  have GO := Lib.hid HO
  have GP := Lib.hid HP
  have GA := Lib.hid HA
  have GB := Lib.hid HB
  have GC := Lib.hid HC
  have GN := Lib.hid HN
  have m1 : 2000 ≤ m := by omega
  have m2 : m < 49998000 := by omega
  have o1 : -840 ≤ o := by omega
  have o2 : o ≤ 840 := by omega
  have p1 : -840 ≤ p := by omega
  have p2 : p ≤ 840 := by omega
  obtain ⟨bm1, bm2⟩ := bm
  obtain ⟨bo1, bo2⟩ := bo
  obtain ⟨bp1, bp2⟩ := bp
  obtain ⟨n1, n2⟩ := hN
  obtain ⟨ha1, ha2⟩ := ha
  obtain ⟨hc1, hc2⟩ := hc
  have hm' := Lib.hid hm
  have ho' := Lib.hid ho
  have hp' := Lib.hid hp
  clear T HM HO HP HA HB HC HN hm ho hp
  go_enter Tryd.func13, Tryd.ntmps13
  go_wp2_with fail
  refine (saneC_any _ HT.out).mono ?_
  rintro e w1 ⟨rfl, hb⟩
  have HB := Lib.hid hb
  have hW : Below w.heap.size w w1 := by (repeat' first | exact Below.refl _ _ | assumption | (refine Below.andThen ?_ HB.out) | (exact HB.out.size) | (refine below_drewN ?_ _) | (refine Below.drew ?_) | (refine Below.alloc ?_ ?_ _) | (refine Below.setCell ?_ ?_ _) | (simp; done) | (simp; omega) | omega)
  replace BB := Lib.hid (Below.andThen BB.out hW)
  replace HT := Lib.hid (HT.out.next hW)
  clear hb hW HB
  go_wp2_with fail
  refine (sameB (GM.out _)).mono ?_
  rintro e w2 ⟨rfl, hb⟩
  have HB := Lib.hid hb
  have hW : Below w1.heap.size w1 w2 := by (repeat' first | exact Below.refl _ _ | assumption | (refine Below.andThen ?_ HB.out) | (exact HB.out.size) | (refine below_drewN ?_ _) | (refine Below.drew ?_) | (refine Below.alloc ?_ ?_ _) | (refine Below.setCell ?_ ?_ _) | (simp; done) | (simp; omega) | omega)
  replace BB := Lib.hid (Below.andThen BB.out hW)
  replace HT := Lib.hid (HT.out.next hW)
  clear hb hW HB
  go_wp2_with fail
  rw [← hm'.out]
  refine (sameB (GO.out _)).mono ?_
  rintro e w3 ⟨rfl, hb⟩
  have HB := Lib.hid hb
  have hW : Below w2.heap.size w2 w3 := by (repeat' first | exact Below.refl _ _ | assumption | (refine Below.andThen ?_ HB.out) | (exact HB.out.size) | (refine below_drewN ?_ _) | (refine Below.drew ?_) | (refine Below.alloc ?_ ?_ _) | (refine Below.setCell ?_ ?_ _) | (simp; done) | (simp; omega) | omega)
  replace BB := Lib.hid (Below.andThen BB.out hW)
  replace HT := Lib.hid (HT.out.next hW)
  clear hb hW HB
  go_wp2_with fail
  rw [← ho'.out]
  refine (sameB (GP.out _)).mono ?_
  rintro e w4 ⟨rfl, hb⟩
  have HB := Lib.hid hb
  have hW : Below w3.heap.size w3 w4 := by (repeat' first | exact Below.refl _ _ | assumption | (refine Below.andThen ?_ HB.out) | (exact HB.out.size) | (refine below_drewN ?_ _) | (refine Below.drew ?_) | (refine Below.alloc ?_ ?_ _) | (refine Below.setCell ?_ ?_ _) | (simp; done) | (simp; omega) | omega)
  replace BB := Lib.hid (Below.andThen BB.out hW)
  replace HT := Lib.hid (HT.out.next hW)
  clear hb hW HB
  go_wp2_with fail
  rw [← hp'.out]
  clear bm1 bm2 bo1 bo2 bp1 bp2 hm' ho' hp'
  refine (GA.out _ HT.out.tab).mono ?_
  rintro e w5 ⟨rfl, hb⟩
  have HB := Lib.hid hb
  have hW : Below w4.heap.size w4 w5 := by (repeat' first | exact Below.refl _ _ | assumption | (refine Below.andThen ?_ HB.out) | (exact HB.out.size) | (refine below_drewN ?_ _) | (refine Below.drew ?_) | (refine Below.alloc ?_ ?_ _) | (refine Below.setCell ?_ ?_ _) | (simp; done) | (simp; omega) | omega)
  replace BB := Lib.hid (Below.andThen BB.out hW)
  replace HT := Lib.hid (HT.out.next hW)
  clear hb hW HB
  go_wp2_with fail
  refine (GB.out _ (HT.out.next (by (repeat' first | with_reducible exact Below.refl _ _ | with_reducible assumption | (with_reducible refine below_drewN ?_ _) | (with_reducible refine Below.drew ?_) | (with_reducible refine Below.alloc ?_ ?_ _) | (with_reducible refine Below.setCell ?_ ?_ _) | omega | (simp; done) | (simp; omega)))).tab).mono ?_
  rintro e w6 ⟨rfl, hb⟩
  have HB := Lib.hid hb
  have hW : Below w5.heap.size w5 w6 := by (repeat' first | exact Below.refl _ _ | assumption | (refine Below.andThen ?_ HB.out) | (exact HB.out.size) | (refine below_drewN ?_ _) | (refine Below.drew ?_) | (refine Below.alloc ?_ ?_ _) | (refine Below.setCell ?_ ?_ _) | (simp; done) | (simp; omega) | omega)
  have F1 : Has6 w6 (w5.heap.size) (.int .i64 a1) (.int .i64 a2) (.int .i64 a3) (.int .i64 a4) (.int .i64 a5) (.int .i64 a6) := has6 ⟨(by first | (simp; done) | (simp; omega)), by go_simp, by go_simp, by go_simp, by go_simp, by go_simp, by go_simp⟩ hb
  replace BB := Lib.hid (Below.andThen BB.out hW)
  replace HT := Lib.hid (HT.out.next hW)
  clear hb hW HB
  go_wp2_with fail
  refine (GC.out _ (HT.out.next (by (repeat' first | with_reducible exact Below.refl _ _ | with_reducible assumption | (with_reducible refine below_drewN ?_ _) | (with_reducible refine Below.drew ?_) | (with_reducible refine Below.alloc ?_ ?_ _) | (with_reducible refine Below.setCell ?_ ?_ _) | omega | (simp; done) | (simp; omega)))).tab).mono ?_
  rintro e w7 ⟨rfl, hb⟩
  have HB := Lib.hid hb
  have hW : Below w6.heap.size w6 w7 := by (repeat' first | exact Below.refl _ _ | assumption | (refine Below.andThen ?_ HB.out) | (exact HB.out.size) | (refine below_drewN ?_ _) | (refine Below.drew ?_) | (refine Below.alloc ?_ ?_ _) | (refine Below.setCell ?_ ?_ _) | (simp; done) | (simp; omega) | omega)
  replace F1 := has6 F1 hW
  have F2 : Has6 w7 (w6.heap.size) (.int .i64 a1) (.int .i64 a2) (.int .i64 a3) (.int .i64 a4) (.int .i64 a5) (.int .i64 a6) := has6 ⟨(by first | (simp; done) | (simp; omega)), by go_simp, by go_simp, by go_simp, by go_simp, by go_simp, by go_simp⟩ hb
  replace BB := Lib.hid (Below.andThen BB.out hW)
  replace HT := Lib.hid (HT.out.next hW)
  clear hb hW HB
  go_wp2_with fail
  refine (GN.out _ (HT.out.next (by (repeat' first | with_reducible exact Below.refl _ _ | with_reducible assumption | (with_reducible refine below_drewN ?_ _) | (with_reducible refine Below.drew ?_) | (with_reducible refine Below.alloc ?_ ?_ _) | (with_reducible refine Below.setCell ?_ ?_ _) | omega | (simp; done) | (simp; omega)))).tab).mono ?_
  rintro e w8 ⟨rfl, hb⟩
  have HB := Lib.hid hb
  have hW : Below w7.heap.size w7 w8 := by (repeat' first | exact Below.refl _ _ | assumption | (refine Below.andThen ?_ HB.out) | (exact HB.out.size) | (refine below_drewN ?_ _) | (refine Below.drew ?_) | (refine Below.alloc ?_ ?_ _) | (refine Below.setCell ?_ ?_ _) | (simp; done) | (simp; omega) | omega)
  replace F1 := has6 F1 hW
  replace F2 := has6 F2 hW
  have F3 : Has6 w8 (w7.heap.size) (.int .i64 c1) (.int .i64 c2) (.int .i64 c3) (.int .i64 c4) (.int .i64 c5) (.int .i64 c6) := has6 ⟨(by first | (simp; done) | (simp; omega)), by go_simp, by go_simp, by go_simp, by go_simp, by go_simp, by go_simp⟩ hb
  replace BB := Lib.hid (Below.andThen BB.out hW)
  replace HT := Lib.hid (HT.out.next hW)
  clear hb hW HB
  rcases hd with hd | ⟨hd, hd2⟩
  all_goals
    go_wp2
    go_ret
    exact ⟨rfl, BB.out⟩

theorem calendarOffsets_any (x1 x2 x3 : Int) (w : World) (T : CW w) (b1 : -9223372036854775808 ≤ x1 ∧ x1 ≤ 9223372036854775807) (b2 : -9223372036854775808 ≤ x2 ∧ x2 ≤ 9223372036854775807) (b3 : -9223372036854775808 ≤ x3 ∧ x3 ≤ 9223372036854775807) :
    Calls Tryd.prog 13 #[.int .i64 x1, .int .i64 x2, .int .i64 x3] w fun r w' => r = .returned (.bool true) ∧ Below w.heap.size w w' := by
  have q1 := pick_bd x1 49996000 (by omega)
  have q2 := pick_bd x2 1681 (by omega)
  have q3 := pick_bd x3 1681 (by omega)
  obtain ⟨m, hm⟩ : ∃ m, m = 2000 + pickZ x1 49996000 := ⟨_, rfl⟩
  obtain ⟨o, ho⟩ : ∃ o, o = pickZ x2 1681 - 840 := ⟨_, rfl⟩
  obtain ⟨p, hp⟩ : ∃ p, p = pickZ x3 1681 - 840 := ⟨_, rfl⟩
  obtain ⟨_, e1, e2⟩ := parts_ok (m := m) (o := p) (by omega) (by omega)
  obtain ⟨_, e3, e4⟩ := parts_ok (m := m + p - o) (o := o) (by omega) (by omega)
  obtain ⟨_, e5, e6⟩ := parts_ok (m := m) (o := o) (by omega) (by omega)
  have e7 := minute_back (m := m + p - o) (o := o) (by omega) (by omega)
  rw [show m + p - o + o = m + p by omega] at e3
  rw [e3] at e7
  refine offsets_walk x1 x2 x3 _ _ _ m o p (m + p - o) (civOf (m + p)).y (civOf (m + p)).m (civOf (m + p)).d (civOf (m + p)).h (civOf (m + p)).n (civOf (m + p)).w (civOf (m + o)).y (civOf (m + o)).m (civOf (m + o)).d (civOf (m + o)).h (civOf (m + o)).n (civOf (m + o)).w w T hm ho hp q1 q2 q3
    (fun w => pickC_any x1 49996000 w (by omega) b1.1 b1.2) (fun w => pickC_any x2 1681 w (by omega) b2.1 b2.2) (fun w => pickC_any x3 1681 w (by omega) b3.1 b3.2)
    (parts_v e1 e2) (parts_v e3 e4) (parts_v e5 e6) (minute_v e7) (by omega) (by rw [beq_iff_eq]; omega) ?_ ?_ ?_
  · rw [civ_w]; omega
  · rw [civ_w]; omega
  · rw [civ_w, civ_w]
    simp only [decide_eq_true_eq, decide_eq_false_iff_not]
    unfold dayOf
    omega

namespace calendarOffsets
set_option maxRecDepth 100000 in
theorem contract (H : Type) (enc : TypeId × Value → H) (W : World) (base : Nat) (args : Array Value) (ds gs : List (DataW H)) (before : List MemPlace)
    (hval : ∀ (j : Nat) t v, Tryd.f13.params[j]? = some t → args[j]? = some v → Value.okWide Tryd.prog W .any base t v)
    (hW : DataW.Whole enc Tryd.prog Tryd.f13.params.toList Rows.calendarOffsetsSpec.vars false W args.toList ds gs before) (hL : laidMetH Tryd.prog Rows.calendarOffsetsRow.laid W) (hsh : W.ShapedOpen Tryd.prog) :
    Calls Tryd.prog 13 args W fun e W' => ∃ v, e = .returned v ∧ Rows.calendarOffsetsSpec.post enc Tryd.prog Tryd.f13 false true false false W args v W' := by
  have hW' := hW
  obtain ⟨p, q, hA0, hV, rfl, hfz, hnd⟩ := hW
  have hA : DataW.TrodAll enc Tryd.prog W 0 (fun _ => true) true Tryd.f13.params.toList args.toList ds p := hA0
  rw [Tryd.params13] at hA hval
  obtain ⟨v0, vs0, d0, ds0, p0, q0, hargs, rfl, rfl, h0, r0⟩ := trodAll_cons hA
  obtain ⟨v1, vs1, d1, ds1, p1, q1, rfl, rfl, rfl, h1, r1⟩ := trodAll_cons r0
  obtain ⟨v2, vs2, d2, ds2, p2, q2, rfl, rfl, rfl, h2, r2⟩ := trodAll_cons r1
  obtain ⟨rfl, rfl, rfl⟩ := trodAll_nil r2
  obtain rfl : args = #[v0, v1, v2] := by cases args; simp_all
  obtain ⟨a0, rfl, rfl, rfl, k0⟩ := open_int Tryd.underlying3 (hval 0 _ _ rfl rfl) h0
  obtain ⟨a1, rfl, rfl, rfl, k1⟩ := open_int Tryd.underlying3 (hval 1 _ _ rfl rfl) h1
  obtain ⟨a2, rfl, rfl, rfl, k2⟩ := open_int Tryd.underlying3 (hval 2 _ _ rfl rfl) h2
  refine (calendarOffsets_any a0 a1 a2 W (cw hL hsh) (bd_i64 k0) (bd_i64 k1) (bd_i64 k2)).mono fun e W' ⟨he, hb⟩ => ?_
  subst he
  obtain ⟨rfl, _⟩ := trodVars_none hV
  exact ⟨_, rfl, law_post laidOut (by kernel_rfl) rfl (by kernel_rfl) Tryd.underlying4 hW' rfl hb⟩

def args0 : Array Value := #[.int .i64 0, .int .i64 0, .int .i64 0]
theorem laid_met (os : Os) : laidMet Tryd.prog Rows.calendarOffsetsRow.laid ((laidWorld os).forCall (fun _ _ => 0) ⟨#[], args0, []⟩).memory :=
  laidMet_of_run' 8 (by kernel_rfl) (by kernel_rfl)
theorem reads (os : Os) {H : Type} (enc : TypeId × Value → H) : ∃ places, DataW.whole enc Tryd.prog ((laidWorld os).forCall (fun _ _ => 0) ⟨#[], args0, []⟩).memory Tryd.f13.params.toList Rows.calendarOffsetsSpec.vars false args0.toList 8 = some ([.lit (.int .i64 0), .lit (.int .i64 0), .lit (.int .i64 0)], [], places) :=
  ⟨[], by kernel_rfl⟩

set_option maxRecDepth 100000 in
theorem lifted (os : Os) (started : os.Started) (H : Type) (enc : TypeId × Value → H) (F : Stop.Interp) :
    ReturnsInHanded {} Tryd.checked os 13 .any ((OpenSpec.ofChange Rows.calendarOffsetsSpec).preRow enc Tryd.prog Tryd.f13 Rows.calendarOffsetsRow.domain false Rows.calendarOffsetsRow.laid) (((OpenSpec.ofChange Rows.calendarOffsetsSpec).at F).post enc Tryd.prog Tryd.f13 false true false false) := by
  obtain ⟨places, hx⟩ := reads os enc
  refine returnsInHanded_of_row (C := Tryd.checked) (s := OpenSpec.ofChange Rows.calendarOffsetsSpec) own started (by kernel_rfl) Tryd.func13
    (witness_row_at (enc := enc) (C := Tryd.checked) false (laidWorld os) args0 rfl (by kernel_rfl) (by kernel_rfl) (by kernel_rfl)
      (OpenSpec.preRow_of_cond 8 hx (by kernel_rfl) (fun k hk => by cases hk) (by kernel_rfl) (laid_met os))) ?_
  intro W base args ds gs before hval hW _ _ _ hL hsh _
  exact contract H enc W base args ds gs before hval hW hL hsh

theorem said : Rows.CalendarOffsetsSaid :=
  OpenClaim.holds_of_cond 13 Tryd.f13 rfl rfl rfl rfl rfl rfl rfl ⟨rfl, rfl, rfl, rfl, rfl⟩ rfl rfl rfl rfl rfl (by kernel_rfl) Tryd.func13 (by kernel_rfl)
    (of_decide_eq_true (by kernel_rfl)) (by unfold Func.isWrapper; first | (rw [if_pos (by decide +kernel)]; kernel_rfl) | (rw [if_neg (by decide +kernel)]; exact ⟨rfl, rfl⟩))
    (fun os started H enc _ F => by rw [OpenClaim.pre_eq_preRow]; exact lifted os started H enc F)

theorem plain (f : FuncId) (fn : Func) (hf : Tryd.pinned.checked.prog.funcNamed "newswire/newswirelaw06.CalendarOffsets" = some f) (hfn : Tryd.pinned.checked.prog.funcs[f]? = some fn) :
    false = Tryd.pinned.checked.prog.looks [] ∧ ∀ (j : Nat) t, fn.params[j]? = some t → Tryd.pinned.checked.prog.wantsStandIn t = false := by
  obtain rfl : f = 13 := Option.some.inj ((show Tryd.prog.funcNamed "newswire/newswirelaw06.CalendarOffsets" = some 13 by kernel_rfl).symm.trans hf) |>.symm
  obtain rfl : fn = Tryd.f13 := (Option.some.inj (Tryd.func13.symm.trans hfn)).symm
  refine ⟨by kernel_rfl, fun j t ht => ?_⟩
  have all : (Tryd.f13.params.toList.all fun t => Tryd.prog.wantsStandIn t == false) = true := by kernel_rfl
  have := List.all_eq_true.1 all t (by rw [← Array.mem_def]; exact Array.mem_of_getElem? ht)
  exact (show Tryd.prog.wantsStandIn t = false by simpa using this)

/-- The statement. -/
theorem card : Rows.CalendarOffsetsCardSaid :=
  Claim7.holds_tied_plain_at .later [] _ _ _ _ said (fun _ h => by cases h) (by kernel_rfl) (fun _ h => by cases h) calendarOffsets_row_tie rfl ⟨rfl, rfl⟩ (by kernel_rfl) rfl plain (by kernel_rfl)
end calendarOffsets
end Go.Proofs.YtdldokhiefeloaaDoor
