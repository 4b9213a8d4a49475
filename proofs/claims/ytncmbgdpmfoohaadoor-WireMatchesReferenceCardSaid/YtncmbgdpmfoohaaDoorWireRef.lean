/- WireMatchesReference. -/
import Derived.Test.YtncmbgdpmfoohaaDoorWireRefD
namespace Go.Proofs.YtncmbgdpmfoohaaDoor
open Go.RowKit Go.ChangeShapes Go.WideShapes Go.ChangeAt

def cutM3 (s : ByteArray) : ByteArray := s.extract 0 (min (s.size : Int) 300).toNat
theorem cutM3_size (s : ByteArray) : (cutM3 s).size ≤ 300 := by
  unfold cutM3
  rw [ByteArray.size_extract]
  omega

set_option maxRecDepth 100000 in
set_option maxHeartbeats 4000000 in
theorem wireRef_any (c : Int) (s : ByteArray) (d : Int) (w : World) (T : Tab w) (c0 : -9223372036854775808 ≤ c ∧ c ≤ 9223372036854775807) (a0 : s.size ≤ maxLen) (d0 : -9223372036854775808 ≤ d ∧ d ≤ 9223372036854775807) :
    Calls Tryd.prog 3 #[.int .i64 c, .string s, .int .i64 d] w fun r w' => r = .returned (.bool true) ∧ Below w.heap.size w w' := by
  have HT := Lib.hid T
  have BB := Lib.hid (Below.refl w.heap.size w)
  have HT0 := HT
  unfold maxLen at a0
  clear T
  go_enter Tryd.func3, Tryd.ntmps3
  go_wp2_with fail
  refine (sane_any _ HT.out).mono ?_
  rintro e w1 ⟨rfl, hb⟩
  have HB := Lib.hid hb
  have hW : Below w.heap.size w w1 := by (repeat' first | exact Below.refl _ _ | assumption | (refine Below.andThen ?_ HB.out) | (exact HB.out.size) | (refine below_drewN ?_ _) | (refine Below.drew ?_) | (refine Below.alloc ?_ ?_ _) | (refine Below.setCell ?_ ?_ _) | (simp; done) | (simp; omega) | omega)
  replace BB := Lib.hid (Below.andThen BB.out hW)
  replace HT := Lib.hid (HT.out.next hW)
  clear hb hW HB
  obtain ⟨t, ht⟩ : ∃ t : ByteArray, t = cutM3 s := ⟨_, rfl⟩
  have ts : t.size ≤ 300 := by rw [ht]; exact cutM3_size s
  go_upto_region 2 with (fail)
  go_cut [8] (fun v wx => v = .string t ∧ wx = w1)
  case first =>
    have H1 := Lib.hid ht
    clear ht
    go_wp2_with fail
    go_meet
    exact ⟨by rw [H1.out]; rfl, rfl⟩
  obtain ⟨rfl, rfl⟩ := hcut
  rename World => w1
  clear ht
  have CN := Lib.hid (fun w => number_any c w c0.1 c0.2)
  have hnb := num_bd c
  go_wp2_with fail
  refine (CN.out _).mono ?_
  rintro e w2 ⟨rfl, hb⟩
  have HB := Lib.hid hb
  have hW : Below w1.heap.size w1 w2 := by (repeat' first | exact Below.refl _ _ | assumption | (refine Below.andThen ?_ HB.out) | (exact HB.out.size) | (refine below_drewN ?_ _) | (refine Below.drew ?_) | (refine Below.alloc ?_ ?_ _) | (refine Below.setCell ?_ ?_ _) | (simp; done) | (simp; omega) | omega)
  replace BB := Lib.hid (Below.andThen BB.out hW)
  replace HT := Lib.hid (HT.out.next hW)
  clear hb hW HB
  clear CN
  go_wp2_with fail
  have hrow : Row (w2.alloc (.cells #[.int .i64 c, .int .i64 (numZ c)] 3)) w2.heap.size 3 [.int .i64 c, .int .i64 (numZ c)] := Row.new _ _ _
  have R0 := Lib.hid hrow
  have HBw := Lib.hid ((BB.out).alloc BB.out.size (.cells #[.int .i64 c, .int .i64 (numZ c)] 3))
  obtain ⟨b, hb⟩ : ∃ b, b = w2.heap.size := ⟨_, rfl⟩
  rw [← hb] at R0 ⊢
  generalize w2.alloc (.cells #[.int .i64 c, .int .i64 (numZ c)] 3) = w4 at *
  clear hrow hb
  go_loopw [44] (fun i wr => ∃ k : Nat, k ≤ 2 ∧ i = .int .i64 k ∧ Row wr b 3 [.int .i64 c, .int .i64 (numZ c)] ∧ Below w.heap.size w wr) (fun i _ => 2 - (intOf i).toNat)
  case atStart => exact ⟨0, by omega, rfl, R0.out, HBw.out⟩
  case round =>
    obtain ⟨k, hk, rfl, hR, hB⟩ := hrel
    by_cases hlt : k < 2
    · obtain ⟨r, hr⟩ : ∃ r : Int, [Value.int .i64 c, Value.int .i64 (numZ c)][k]? = some (.int .i64 r) := by
        rcases (show k = 0 ∨ k = 1 by omega) with rfl | rfl
        · exact ⟨c, rfl⟩
        · exact ⟨numZ c, rfl⟩
      have hc : wr.cell? ⟨b, k, none⟩ = some (.int .i64 r) := by rw [hR.cell]; exact hr
      have HR := Lib.hid hR
      have HB := Lib.hid hB
      have HT := Lib.hid (HT0.out.next hB)
      have BB := Lib.hid (Below.refl wr.heap.size wr)
      obtain ⟨p1, p2, hp⟩ : ∃ p1 p2, putV r = .tuple #[.string p1, .int .i64 p2] := ⟨_, _, rfl⟩
      have CP := Lib.hid (fun w => put_v hp (put_any r w))
      have CQ := Lib.hid (fun w => put_v hp (refPut_any r w))
      clear hR hB hr HBw R0 HT0 hp
      go_wp2_with fail
      refine (CP.out _).mono ?_
      rintro e w5 ⟨rfl, hb⟩
      have HB := Lib.hid hb
      have hW : Below wr.heap.size wr w5 := by (repeat' first | exact Below.refl _ _ | assumption | (refine Below.andThen ?_ HB.out) | (exact HB.out.size) | (refine below_drewN ?_ _) | (refine Below.drew ?_) | (refine Below.alloc ?_ ?_ _) | (refine Below.setCell ?_ ?_ _) | (simp; done) | (simp; omega) | omega)
      replace BB := Lib.hid (Below.andThen BB.out hW)
      replace HT := Lib.hid (HT.out.next hW)
      clear hb hW HB
      clear CP
      go_wp2_with fail
      refine (CQ.out _).mono ?_
      rintro e w6 ⟨rfl, hb⟩
      have HB := Lib.hid hb
      have hW : Below w5.heap.size w5 w6 := by (repeat' first | exact Below.refl _ _ | assumption | (refine Below.andThen ?_ HB.out) | (exact HB.out.size) | (refine below_drewN ?_ _) | (refine Below.drew ?_) | (refine Below.alloc ?_ ?_ _) | (refine Below.setCell ?_ ?_ _) | (simp; done) | (simp; omega) | omega)
      replace BB := Lib.hid (Below.andThen BB.out hW)
      replace HT := Lib.hid (HT.out.next hW)
      clear hb hW HB
      clear CQ
      go_wp2_with fail
      exact ⟨⟨k + 1, by omega, by go_num, HR.out.next BB.out, Below.andThen HB.out BB.out⟩, by simp [intOf]; omega⟩
    · have BB := Lib.hid hB
      have HT := Lib.hid (HT0.out.next hB)
      clear hB hR HBw R0
      obtain ⟨p0, p1⟩ := pick_bd d ((t.size : Int) + 2) (by omega)
      have HP := Lib.hid (fun w => pick_any d ((t.size : Int) + 2) w (by omega) d0.1 d0.2)
      generalize pickZ d ((t.size : Int) + 2) = F at *
      go_wp2_with fail
      refine (same_below (HP.out _)).mono ?_
      rintro e w5 ⟨rfl, hb⟩
      have HB := Lib.hid hb
      have hW : Below wr.heap.size wr w5 := by (repeat' first | exact Below.refl _ _ | assumption | (refine Below.andThen ?_ HB.out) | (exact HB.out.size) | (refine below_drewN ?_ _) | (refine Below.drew ?_) | (refine Below.alloc ?_ ?_ _) | (refine Below.setCell ?_ ?_ _) | (simp; done) | (simp; omega) | omega)
      replace BB := Lib.hid (Below.andThen BB.out hW)
      replace HT := Lib.hid (HT.out.next hW)
      clear hb hW HB
      clear HP
      go_wp2_with fail
      have hrow : Row (w5.alloc (.cells #[.int .i64 d, .int .i64 F] 3)) w5.heap.size 3 [.int .i64 d, .int .i64 F] := Row.new _ _ _
      have R0 := Lib.hid hrow
      have HBw := Lib.hid ((BB.out).alloc BB.out.size (.cells #[.int .i64 d, .int .i64 F] 3))
      obtain ⟨b', hb'⟩ : ∃ b', b' = w5.heap.size := ⟨_, rfl⟩
      rw [← hb'] at R0 ⊢
      generalize w5.alloc (.cells #[.int .i64 d, .int .i64 F] 3) = w6 at *
      clear hrow hb' hlt hk
      go_loopw [75] (fun i wr => ∃ j : Nat, j ≤ 2 ∧ i = .int .i64 j ∧ Row wr b' 3 [.int .i64 d, .int .i64 F] ∧ Below w.heap.size w wr) (fun i _ => 2 - (intOf i).toNat)
      case atStart => exact ⟨0, by omega, rfl, R0.out, HBw.out⟩
      case round =>
        obtain ⟨j, hj, rfl, hR, hB⟩ := hrel
        by_cases hlt : j < 2
        · obtain ⟨r, hr, r0, r1⟩ : ∃ r : Int, [Value.int .i64 d, Value.int .i64 F][j]? = some (.int .i64 r) ∧ -9223372036854775808 ≤ r ∧ r ≤ 9223372036854775807 := by
            rcases (show j = 0 ∨ j = 1 by omega) with rfl | rfl
            · exact ⟨d, rfl, d0.1, d0.2⟩
            · exact ⟨F, rfl, by omega, by omega⟩
          have hc := (hR.cell j).trans hr
          have HR := Lib.hid hR
          have HB := Lib.hid hB
          have HTx := Lib.hid (HT0.out.next hB)
          obtain ⟨q1, q2, q3, hq⟩ : ∃ q1 q2 q3, intV (intR t.data.toList r) = .tuple #[.int .i64 q1, .int .i64 q2, .int .i64 q3] := ⟨_, _, _, rfl⟩
          obtain ⟨v1, v2, v3, hv⟩ : ∃ v1 v2 v3, strV (strR t r) = .tuple #[.string v1, .int .i64 v2, .int .i64 v3] := ⟨_, _, _, rfl⟩
          have CI := Lib.hid (fun w => same_v hq (int_any t r w (by unfold maxLen; omega) r0 r1))
          have CJ := Lib.hid (fun w => put_v hq (refInt_any t r w (by unfold maxLen; omega) r0 r1))
          have CS := Lib.hid (fun w => same_v hv (string_any t r w (by unfold maxLen; omega) r0 r1))
          have CR := Lib.hid (fun w => put_v hv (refString_any t r w (by unfold maxLen; omega) r0 r1))
          clear hq hv hr hB hR HBw R0 BB HT
          rename World => wz
          have BB := Lib.hid (Below.refl wz.heap.size wz)
          have HT := HTx
          clear HTx
          go_wp2_with fail
          refine (CI.out _).mono ?_
          rintro e w7 ⟨rfl, hb⟩
          have HB := Lib.hid hb
          have hW : Below wz.heap.size wz w7 := by (repeat' first | exact Below.refl _ _ | assumption | (refine Below.andThen ?_ HB.out) | (exact HB.out.size) | (refine below_drewN ?_ _) | (refine Below.drew ?_) | (refine Below.alloc ?_ ?_ _) | (refine Below.setCell ?_ ?_ _) | (simp; done) | (simp; omega) | omega)
          replace BB := Lib.hid (Below.andThen BB.out hW)
          replace HT := Lib.hid (HT.out.next hW)
          clear hb hW HB
          clear CI
          go_wp2_with fail
          refine (CJ.out _).mono ?_
          rintro e w8 ⟨rfl, hb⟩
          have HB := Lib.hid hb
          have hW : Below w7.heap.size w7 w8 := by (repeat' first | exact Below.refl _ _ | assumption | (refine Below.andThen ?_ HB.out) | (exact HB.out.size) | (refine below_drewN ?_ _) | (refine Below.drew ?_) | (refine Below.alloc ?_ ?_ _) | (refine Below.setCell ?_ ?_ _) | (simp; done) | (simp; omega) | omega)
          replace BB := Lib.hid (Below.andThen BB.out hW)
          replace HT := Lib.hid (HT.out.next hW)
          clear hb hW HB
          clear CJ
          go_wp2_with fail
          refine (CS.out _).mono ?_
          rintro e w9 ⟨rfl, hb⟩
          have HB := Lib.hid hb
          have hW : Below w8.heap.size w8 w9 := by (repeat' first | exact Below.refl _ _ | assumption | (refine Below.andThen ?_ HB.out) | (exact HB.out.size) | (refine below_drewN ?_ _) | (refine Below.drew ?_) | (refine Below.alloc ?_ ?_ _) | (refine Below.setCell ?_ ?_ _) | (simp; done) | (simp; omega) | omega)
          replace BB := Lib.hid (Below.andThen BB.out hW)
          replace HT := Lib.hid (HT.out.next hW)
          clear hb hW HB
          clear CS
          go_wp2_with fail
          refine (CR.out _).mono ?_
          rintro e w10 ⟨rfl, hb⟩
          have HB := Lib.hid hb
          have hW : Below w9.heap.size w9 w10 := by (repeat' first | exact Below.refl _ _ | assumption | (refine Below.andThen ?_ HB.out) | (exact HB.out.size) | (refine below_drewN ?_ _) | (refine Below.drew ?_) | (refine Below.alloc ?_ ?_ _) | (refine Below.setCell ?_ ?_ _) | (simp; done) | (simp; omega) | omega)
          replace BB := Lib.hid (Below.andThen BB.out hW)
          replace HT := Lib.hid (HT.out.next hW)
          clear hb hW HB
          clear CR
          go_wp2_with fail
          exact ⟨⟨j + 1, by omega, by go_num, HR.out.next BB.out, Below.andThen HB.out BB.out⟩, by simp [intOf]; omega⟩
        · have HTx := Lib.hid (HT0.out.next hB)
          have HBx := Lib.hid hB
          obtain ⟨p1, p2, hp⟩ : ∃ p1 p2, putSV t = .tuple #[.string p1, .int .i64 p2] := ⟨_, _, rfl⟩
          have CP := Lib.hid (fun w => put_v hp (putString_any t w (by unfold maxLen; omega)))
          have CQ := Lib.hid (fun w => put_v hp (refPutString_any t w (by unfold maxLen; omega)))
          clear hp hB hR HBw R0 BB HT
          rename World => wz
          have BB := HBx
          have HT := HTx
          clear HTx HBx
          go_wp2_with fail
          refine (CP.out _).mono ?_
          rintro e w7 ⟨rfl, hb⟩
          have HB := Lib.hid hb
          have hW : Below wz.heap.size wz w7 := by (repeat' first | exact Below.refl _ _ | assumption | (refine Below.andThen ?_ HB.out) | (exact HB.out.size) | (refine below_drewN ?_ _) | (refine Below.drew ?_) | (refine Below.alloc ?_ ?_ _) | (refine Below.setCell ?_ ?_ _) | (simp; done) | (simp; omega) | omega)
          replace BB := Lib.hid (Below.andThen BB.out hW)
          replace HT := Lib.hid (HT.out.next hW)
          clear hb hW HB
          clear CP
          go_wp2_with fail
          refine (CQ.out _).mono ?_
          rintro e w8 ⟨rfl, hb⟩
          have HB := Lib.hid hb
          have hW : Below w7.heap.size w7 w8 := by (repeat' first | exact Below.refl _ _ | assumption | (refine Below.andThen ?_ HB.out) | (exact HB.out.size) | (refine below_drewN ?_ _) | (refine Below.drew ?_) | (refine Below.alloc ?_ ?_ _) | (refine Below.setCell ?_ ?_ _) | (simp; done) | (simp; omega) | omega)
          replace BB := Lib.hid (Below.andThen BB.out hW)
          replace HT := Lib.hid (HT.out.next hW)
          clear hb hW HB
          clear CQ
          go_wp2_with fail
          refine (same_below (sum_any t _ (by unfold maxLen; omega) HT.out)).mono ?_
          rintro e w9 ⟨rfl, hb⟩
          have HB := Lib.hid hb
          have hW : Below w8.heap.size w8 w9 := by (repeat' first | exact Below.refl _ _ | assumption | (refine Below.andThen ?_ HB.out) | (exact HB.out.size) | (refine below_drewN ?_ _) | (refine Below.drew ?_) | (refine Below.alloc ?_ ?_ _) | (refine Below.setCell ?_ ?_ _) | (simp; done) | (simp; omega) | omega)
          replace BB := Lib.hid (Below.andThen BB.out hW)
          replace HT := Lib.hid (HT.out.next hW)
          clear hb hW HB
          go_wp2_with fail
          refine (same_below (refSum_any t _ (by unfold maxLen; omega))).mono ?_
          rintro e w10 ⟨rfl, hb⟩
          have HB := Lib.hid hb
          have hW : Below w9.heap.size w9 w10 := by (repeat' first | exact Below.refl _ _ | assumption | (refine Below.andThen ?_ HB.out) | (exact HB.out.size) | (refine below_drewN ?_ _) | (refine Below.drew ?_) | (refine Below.alloc ?_ ?_ _) | (refine Below.setCell ?_ ?_ _) | (simp; done) | (simp; omega) | omega)
          replace BB := Lib.hid (Below.andThen BB.out hW)
          replace HT := Lib.hid (HT.out.next hW)
          clear hb hW HB
          go_wp2_with fail
          go_ret
          exact ⟨rfl, BB.out⟩
namespace wireMatchesReference
set_option maxRecDepth 100000 in
theorem contract (H : Type) (enc : TypeId × Value → H) (W : World) (base : Nat) (args : Array Value) (ds gs : List (DataW H)) (before : List MemPlace)
    (hval : ∀ (j : Nat) t v, Tryd.f3.params[j]? = some t → args[j]? = some v → Value.okWide Tryd.prog W .any base t v)
    (hW : DataW.Whole enc Tryd.prog Tryd.f3.params.toList Rows.wireMatchesReferenceSpec.vars false W args.toList ds gs before) (hL : laidMetH Tryd.prog Rows.wireMatchesReferenceRow.laid W) :
    Calls Tryd.prog 3 args W fun e W' => ∃ v, e = .returned v ∧ Rows.wireMatchesReferenceSpec.post enc Tryd.prog Tryd.f3 false true false false W args v W' := by
  have hW' := hW
  obtain ⟨p, q, hA0, hV, rfl, hfz, hnd⟩ := hW
  have hA : DataW.TrodAll enc Tryd.prog W 0 (fun _ => true) true Tryd.f3.params.toList args.toList ds p := hA0
  rw [Tryd.params3] at hA hval
  obtain ⟨v0, vs0, d0, ds0, p0, q0, hargs, rfl, rfl, h0, r0⟩ := trodAll_cons hA
  obtain ⟨v1, vs1, d1, ds1, p1, q1, rfl, rfl, rfl, h1, r1⟩ := trodAll_cons r0
  obtain ⟨v2, vs2, d2, ds2, p2, q2, rfl, rfl, rfl, h2, r2⟩ := trodAll_cons r1
  obtain ⟨rfl, rfl, rfl⟩ := trodAll_nil r2
  obtain rfl : args = #[v0, v1, v2] := by cases args; simp_all
  obtain ⟨a0, rfl, rfl, rfl, k0⟩ := open_int Tryd.underlying3 (hval 0 _ _ rfl rfl) h0
  obtain ⟨a1, rfl, rfl, rfl, k1⟩ := Go.ChangeMaps.open_string Tryd.underlying9 (hval 1 _ _ rfl rfl) h1
  obtain ⟨a2, rfl, rfl, rfl, k2⟩ := open_int Tryd.underlying3 (hval 2 _ _ rfl rfl) h2
  refine (wireRef_any a0 a1 a2 W (tab hL) (bd_i64 k0) k1 (bd_i64 k2)).mono fun e W' ⟨he, hb⟩ => ?_
  subst he
  obtain ⟨rfl, _⟩ := trodVars_none hV
  exact ⟨_, rfl, law_post laidOut (by kernel_rfl) rfl (by kernel_rfl) Tryd.underlying4 hW' rfl hb⟩

def args0 : Array Value := #[.int .i64 0, .string ⟨#[]⟩, .int .i64 0]
theorem laid_met (os : Os) : laidMet Tryd.prog Rows.wireMatchesReferenceRow.laid ((laidWorld os).forCall (fun _ _ => 0) ⟨#[], args0, []⟩).memory :=
  laidMet_of_run' 8 (by kernel_rfl) (by kernel_rfl)
theorem reads (os : Os) {H : Type} (enc : TypeId × Value → H) : ∃ places, DataW.whole enc Tryd.prog ((laidWorld os).forCall (fun _ _ => 0) ⟨#[], args0, []⟩).memory Tryd.f3.params.toList Rows.wireMatchesReferenceSpec.vars false args0.toList 8 = some ([.lit (.int .i64 0), .lit (.string []), .lit (.int .i64 0)], [], places) :=
  ⟨[], by kernel_rfl⟩

set_option maxRecDepth 100000 in
theorem lifted (os : Os) (started : os.Started) (H : Type) (enc : TypeId × Value → H) (F : Stop.Interp) :
    ReturnsInHanded {} Tryd.checked os 3 .any ((OpenSpec.ofChange Rows.wireMatchesReferenceSpec).preRow enc Tryd.prog Tryd.f3 Rows.wireMatchesReferenceRow.domain false Rows.wireMatchesReferenceRow.laid) (((OpenSpec.ofChange Rows.wireMatchesReferenceSpec).at F).post enc Tryd.prog Tryd.f3 false true false false) := by
  obtain ⟨places, hx⟩ := reads os enc
  refine returnsInHanded_of_row (C := Tryd.checked) (s := OpenSpec.ofChange Rows.wireMatchesReferenceSpec) own started (by kernel_rfl) Tryd.func3
    (witness_row_at (enc := enc) (C := Tryd.checked) false (laidWorld os) args0 rfl (by kernel_rfl) (by kernel_rfl) (by kernel_rfl)
      (OpenSpec.preRow_of_cond 8 hx (by kernel_rfl) (fun k hk => by cases hk) (by kernel_rfl) (laid_met os))) ?_
  intro W base args ds gs before hval hW _ _ _ hL _ _
  exact contract H enc W base args ds gs before hval hW hL

theorem said : Rows.WireMatchesReferenceSaid :=
  OpenClaim.holds_of_cond 3 Tryd.f3 rfl rfl rfl rfl rfl rfl rfl ⟨rfl, rfl, rfl, rfl, rfl⟩ rfl rfl rfl rfl rfl (by kernel_rfl) Tryd.func3 (by kernel_rfl)
    (of_decide_eq_true (by kernel_rfl)) (by unfold Func.isWrapper; first | (rw [if_pos (by decide +kernel)]; kernel_rfl) | (rw [if_neg (by decide +kernel)]; exact ⟨rfl, rfl⟩))
    (fun os started H enc _ F => by rw [OpenClaim.pre_eq_preRow]; exact lifted os started H enc F)

theorem plain (f : FuncId) (fn : Func) (hf : Tryd.pinned.checked.prog.funcNamed "newswire/newswirelaw01.WireMatchesReference" = some f) (hfn : Tryd.pinned.checked.prog.funcs[f]? = some fn) :
    false = Tryd.pinned.checked.prog.looks [] ∧ ∀ (j : Nat) t, fn.params[j]? = some t → Tryd.pinned.checked.prog.wantsStandIn t = false := by
  obtain rfl : f = 3 := Option.some.inj ((show Tryd.prog.funcNamed "newswire/newswirelaw01.WireMatchesReference" = some 3 by kernel_rfl).symm.trans hf) |>.symm
  obtain rfl : fn = Tryd.f3 := (Option.some.inj (Tryd.func3.symm.trans hfn)).symm
  refine ⟨by kernel_rfl, fun j t ht => ?_⟩
  have all : (Tryd.f3.params.toList.all fun t => Tryd.prog.wantsStandIn t == false) = true := by kernel_rfl
  have := List.all_eq_true.1 all t (by rw [← Array.mem_def]; exact Array.mem_of_getElem? ht)
  exact (show Tryd.prog.wantsStandIn t = false by simpa using this)

/-- The statement. -/
theorem card : Rows.WireMatchesReferenceCardSaid :=
  Claim7.holds_tied_plain_at .later [] _ _ _ _ said (fun _ h => by cases h) (by kernel_rfl) (fun _ h => by cases h) wireMatchesReference_row_tie rfl ⟨rfl, rfl⟩ (by kernel_rfl) rfl plain (by kernel_rfl)
end wireMatchesReference
end Go.Proofs.YtncmbgdpmfoohaaDoor
