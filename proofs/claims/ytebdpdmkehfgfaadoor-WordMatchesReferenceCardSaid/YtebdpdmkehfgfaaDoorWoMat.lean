/- WordMatchesReference holds for every input: Words, Is, Month, Weekday, MonthOf and WeekdayOf agree with the reference implementation. The tables are as the program's text lays them. -/
import Derived.Test.YtebdpdmkehfgfaaDoorWoGQ
import Derived.Test.YtebdpdmkehfgfaaDoorWoRP
import Derived.Test.YtebdpdmkehfgfaaDoorWoRK
import Derived.Test.YtebdpdmkehfgfaaDoorWoFr
set_option linter.unusedVariables false
set_option linter.unusedSimpArgs false
namespace Go.Proofs.YtebdpdmkehfgfaaDoor
open Go.RowKit Go.ChangeShapes Go.WideShapes Go.ChangeAt
open Wo in
set_option maxRecDepth 100000 in
set_option maxHeartbeats 16000000 in
theorem wordMatches_law (x0 n0 : Int) (s : ByteArray) (w : World) (T : Wo.Tab w) (hx : -9223372036854775808 ≤ x0 ∧ x0 ≤ 9223372036854775807) (hn0 : -9223372036854775808 ≤ n0 ∧ n0 ≤ 9223372036854775807) (hs : s.size ≤ maxLen) :
    Calls Tryd.prog 3 #[.int .i64 x0, .int .i64 n0, .string s] w fun e w' => e = .returned (.bool true) ∧ Below w.heap.size w w' := by
  obtain ⟨k, hk, PK⟩ := pick_k x0 3 3 rfl (by decide) hx
  obtain ⟨p, hp6, PN⟩ := pick_k n0 1000000 1000000 rfl (by decide) hn0
  obtain ⟨q, hq3, PM⟩ := pick_k n0 13 13 rfl (by decide) hn0
  have HPK := Lib.hid PK
  have HPN := Lib.hid PN
  have HPM := Lib.hid PM
  have HT := Lib.hid T
  have BB := Lib.hid (Below.refl w.heap.size w)
  have hx60 : s.extract 0 (min (s.size : Int) 60).toNat = bs (cutB s) := cut_bs s
  have m1 : 0 ≤ min (s.size : Int) 60 := by omega
  have m2 : min (s.size : Int) 60 ≤ (s.size : Int) := by omega
  have HCB := Lib.hid (show (cutB s).length ≤ 1000000 by have := cutB_len s; omega)
  have HX0 := Lib.hid hx.2
  have HN0 := Lib.hid hn0.2
  generalize cutB s = cb at *
  clear T PK PN PM hx hn0
  go_enter Tryd.func3, Tryd.ntmps3
  go_wp2_with fail
  with_reducible refine Calls.mono (sane_any _ HT.out) ?_
  rintro e w1 ⟨rfl, hb⟩
  replace HT := Lib.hid (HT.out.next hb)
  replace BB := Lib.hid (Below.andThen BB.out hb)
  clear hb
  go_wp2_with fail
  clear hx60 m1 m2
  with_reducible refine Calls.mono (HPK.out _) ?_
  rintro e w' ⟨rfl, rfl⟩
  go_upto_region 6 with (fail)
  refine wp_named fun w2 hq => ?_
  obtain ⟨b1, eb1⟩ : ∃ b, b = w1.heap.size := ⟨_, rfl⟩
  have R1 := Lib.hid (show Nums 2 w2 b1 by rw [hq, eb1]; exact nums_new w1 _ [x0, 1 + (k : Int)] (by intro y hy; simp at hy; have := HX0.out; omega))
  have hb : Below w1.heap.size w1 w2 := by rw [hq]; exact (Below.refl _ _).alloc (Nat.le_refl _) _
  replace HT := Lib.hid (HT.out.next hb)
  replace BB := Lib.hid (Below.andThen BB.out hb)
  clear hb
  rw [← eb1]
  clear hq eb1
  go_loopw [47] (fun jv wr => ∃ j : Nat, jv = .int .i64 j ∧ j ≤ 2 ∧ Below w2.heap.size w2 wr) (fun jv _ => 2 - (intOf jv).toNat)
  case atStart => exact ⟨0, rfl, by decide, Below.refl _ _⟩
  case round =>
    obtain ⟨j, rfl, hj, hB⟩ := hrel
    rename World => wr1
    replace HT := Lib.hid (HT.out.next hB)
    replace R1 := Lib.hid (R1.out.next hB)
    replace BB := Lib.hid (Below.andThen BB.out hB)
    have S1 := Lib.hid (show SinceW w2 wr1 from hB)
    clear hB
    by_cases hlt : j < 2
    · obtain ⟨y, hc, -⟩ := R1.out.2 j hlt
      have lb := R1.out.1
      go_wp2_with fail
      clear hc lb
      with_reducible refine Calls.mono (HPN.out _) ?_
      rintro e w' ⟨rfl, rfl⟩
      go_wp2_with fail
      with_reducible refine Calls.mono (HPM.out _) ?_
      rintro e w' ⟨rfl, rfl⟩
      go_upto_region 9 with (fail)
      refine wp_named fun w3 hq => ?_
      obtain ⟨b2, eb2⟩ : ∃ b, b = wr1.heap.size := ⟨_, rfl⟩
      have R2 := Lib.hid (show Nums 3 w3 b2 by rw [hq, eb2]; exact nums_new wr1 _ [n0, (p : Int), (q : Int)] (by intro y hy; simp at hy; have := HN0.out; omega))
      have hb : Below wr1.heap.size wr1 w3 := by rw [hq]; exact (Below.refl _ _).alloc (Nat.le_refl _) _
      replace HT := Lib.hid (HT.out.next hb)
      replace S1 := Lib.hid (S1.out.next hb)
      replace BB := Lib.hid (Below.andThen BB.out hb)
      clear hb
      rw [← eb2]
      clear hq eb2
      go_loopw [58] (fun jv wr => ∃ j : Nat, jv = .int .i64 j ∧ j ≤ 3 ∧ Below w3.heap.size w3 wr) (fun jv _ => 3 - (intOf jv).toNat)
      case atStart => exact ⟨0, rfl, by decide, Below.refl _ _⟩
      case round =>
        obtain ⟨j2, rfl, hj2, hB⟩ := hrel
        rename World => wr2
        replace HT := Lib.hid (HT.out.next hB)
        replace R2 := Lib.hid (R2.out.next hB)
        replace S1 := Lib.hid (S1.out.next hB)
        replace BB := Lib.hid (Below.andThen BB.out hB)
        have S2 := Lib.hid (show SinceW w3 wr2 from hB)
        clear hB
        by_cases hlt2 : j2 < 3
        · obtain ⟨z, hc, hz⟩ := R2.out.2 j2 hlt2
          have lb := R2.out.1
          have C1 := Lib.hid (fun W (T : Tab W) => Words_any y z W T)
          have C2 := Lib.hid (fun W => rWords_any y z W)
          have C3 := Lib.hid (fun W (T : Tab W) => Month_any y z W T hz)
          have C4 := Lib.hid (fun W => rMonth y z W hz)
          have C5 := Lib.hid (fun W (T : Tab W) => Weekday_any y z W T hz)
          have C6 := Lib.hid (fun W => rWeekday y z W hz)
          have HL := Lib.hid (wO_len y z)
          obtain ⟨ws, er, hw⟩ : ∃ a b, wO y z = (a, b) := ⟨_, _, rfl⟩
          obtain ⟨mw, me, hm⟩ : ∃ a b, nm (mO y) 1 z = (a, b) := ⟨_, _, rfl⟩
          obtain ⟨dw, de, hd⟩ : ∃ a b, nm (dO y) 0 z = (a, b) := ⟨_, _, rfl⟩
          rw [hw] at C1 C2 HL
          rw [hm] at C3 C4
          rw [hd] at C5 C6
          have CS := Lib.hid (fun oA cA oB cB W (h1 : SSl W oA ws) (h2 : SSl W oB ws) => Same_any oA oB ws.length cA ws.length cB ws ws W rfl rfl HL.out HL.out h1 h2)
          rw [decide_eq_true rfl] at CS
          clear hw hm hd hz
          go_wp2_with fail
          clear hc lb
          with_reducible refine Calls.mono (C1.out _ HT.out) ?_
          rintro e w4 ⟨v, rfl, ho, hb⟩
          replace HT := Lib.hid (HT.out.next hb)
          replace S1 := Lib.hid (S1.out.next hb)
          replace S2 := Lib.hid (S2.out.next hb)
          replace BB := Lib.hid (Below.andThen BB.out hb)
          obtain ⟨oA, cA, rfl, -, -, -, hsl⟩ := ho.form; have SA := Lib.hid hsl; clear ho hsl
          clear hb
          go_wp2_with fail
          with_reducible refine Calls.mono (C2.out _) ?_
          rintro e w5 ⟨v, rfl, ho, hb⟩
          replace HT := Lib.hid (HT.out.next hb)
          replace S1 := Lib.hid (S1.out.next hb)
          replace S2 := Lib.hid (S2.out.next hb)
          replace SA := Lib.hid (SA.out.next hb)
          replace BB := Lib.hid (Below.andThen BB.out hb)
          obtain ⟨oB, cB, rfl, -, -, -, hsl⟩ := ho; have SB := Lib.hid hsl; clear hsl
          clear hb
          go_wp2_with fail
          with_reducible refine Calls.mono (C3.out _ HT.out) ?_
          rintro e w6 ⟨rfl, hb⟩
          replace HT := Lib.hid (HT.out.next hb)
          replace S1 := Lib.hid (S1.out.next hb)
          replace S2 := Lib.hid (S2.out.next hb)
          replace SA := Lib.hid (SA.out.next hb)
          replace SB := Lib.hid (SB.out.next hb)
          replace BB := Lib.hid (Below.andThen BB.out hb)
          clear hb
          go_wp2_with fail
          with_reducible refine Calls.mono (C4.out _) ?_
          rintro e w7 ⟨rfl, hb⟩
          replace HT := Lib.hid (HT.out.next hb)
          replace S1 := Lib.hid (S1.out.next hb)
          replace S2 := Lib.hid (S2.out.next hb)
          replace SA := Lib.hid (SA.out.next hb)
          replace SB := Lib.hid (SB.out.next hb)
          replace BB := Lib.hid (Below.andThen BB.out hb)
          clear hb
          go_wp2_with fail
          with_reducible refine Calls.mono (C5.out _ HT.out) ?_
          rintro e w8 ⟨rfl, hb⟩
          replace HT := Lib.hid (HT.out.next hb)
          replace S1 := Lib.hid (S1.out.next hb)
          replace S2 := Lib.hid (S2.out.next hb)
          replace SA := Lib.hid (SA.out.next hb)
          replace SB := Lib.hid (SB.out.next hb)
          replace BB := Lib.hid (Below.andThen BB.out hb)
          clear hb
          go_wp2_with fail
          with_reducible refine Calls.mono (C6.out _) ?_
          rintro e w9 ⟨rfl, hb⟩
          replace HT := Lib.hid (HT.out.next hb)
          replace S1 := Lib.hid (S1.out.next hb)
          replace S2 := Lib.hid (S2.out.next hb)
          replace SA := Lib.hid (SA.out.next hb)
          replace SB := Lib.hid (SB.out.next hb)
          replace BB := Lib.hid (Below.andThen BB.out hb)
          clear hb
          go_wp2_with fail
          with_reducible refine Calls.mono (CS.out _ _ _ _ _ SA.out SB.out) ?_
          rintro e w10 ⟨rfl, hb⟩
          replace HT := Lib.hid (HT.out.next hb)
          replace S1 := Lib.hid (S1.out.next hb)
          replace S2 := Lib.hid (S2.out.next hb)
          replace BB := Lib.hid (Below.andThen BB.out hb)
          clear hb
          go_wp2_with fail
          go_roundw
          case rel => exact ⟨j2 + 1, by go_num, by omega, S2.out⟩
          case measure => simp [intOf]; omega
        · obtain rfl : j2 = 3 := by omega
          have C1 := Lib.hid (fun W (T : Tab W) => MonthOf_any y cb W T)
          have C2 := Lib.hid (fun W => rMonthOf y cb W)
          have C3 := Lib.hid (fun W (T : Tab W) => WeekdayOf_any y cb W T)
          have C4 := Lib.hid (fun W => rWeekdayOf y cb W)
          have C5 := Lib.hid (fun W (T : Tab W) => Is_any y cb HCB.out W T)
          have C6 := Lib.hid (fun W => rIs_any y cb HCB.out W)
          obtain ⟨mn, me, hm⟩ : ∃ a b, nu (mO y) 1 cb = (a, b) := ⟨_, _, rfl⟩
          obtain ⟨dn, de, hd⟩ : ∃ a b, nu (dO y) 0 cb = (a, b) := ⟨_, _, rfl⟩
          obtain ⟨ib, hi⟩ : ∃ a, iO y cb = a := ⟨_, rfl⟩
          rw [hm] at C1 C2
          rw [hd] at C3 C4
          rw [hi] at C5 C6
          clear hm hd hi
          go_wp2_with fail
          with_reducible refine Calls.mono (C1.out _ HT.out) ?_
          rintro e w4 ⟨rfl, hb⟩
          replace HT := Lib.hid (HT.out.next hb)
          replace S1 := Lib.hid (S1.out.next hb)
          replace BB := Lib.hid (Below.andThen BB.out hb)
          clear hb
          go_wp2_with fail
          with_reducible refine Calls.mono (C2.out _) ?_
          rintro e w5 ⟨rfl, hb⟩
          replace HT := Lib.hid (HT.out.next hb)
          replace S1 := Lib.hid (S1.out.next hb)
          replace BB := Lib.hid (Below.andThen BB.out hb)
          clear hb
          go_wp2_with fail
          with_reducible refine Calls.mono (C3.out _ HT.out) ?_
          rintro e w6 ⟨rfl, hb⟩
          replace HT := Lib.hid (HT.out.next hb)
          replace S1 := Lib.hid (S1.out.next hb)
          replace BB := Lib.hid (Below.andThen BB.out hb)
          clear hb
          go_wp2_with fail
          with_reducible refine Calls.mono (C4.out _) ?_
          rintro e w7 ⟨rfl, hb⟩
          replace HT := Lib.hid (HT.out.next hb)
          replace S1 := Lib.hid (S1.out.next hb)
          replace BB := Lib.hid (Below.andThen BB.out hb)
          clear hb
          go_wp2_with fail
          with_reducible refine Calls.mono (C5.out _ HT.out) ?_
          rintro e w8 ⟨rfl, hb⟩
          replace HT := Lib.hid (HT.out.next hb)
          replace S1 := Lib.hid (S1.out.next hb)
          replace BB := Lib.hid (Below.andThen BB.out hb)
          clear hb
          go_wp2_with fail
          with_reducible refine Calls.mono (C6.out _) ?_
          rintro e w9 ⟨rfl, hb⟩
          replace HT := Lib.hid (HT.out.next hb)
          replace S1 := Lib.hid (S1.out.next hb)
          replace BB := Lib.hid (Below.andThen BB.out hb)
          clear hb
          go_wp2_with fail
          go_roundw
          case rel => exact ⟨j + 1, by go_num, by omega, S1.out⟩
          case measure => simp [intOf]; omega
    · obtain rfl : j = 2 := by omega
      go_wp2_with fail
      go_ret
      exact ⟨rfl, BB.out⟩
namespace wordMatchesReference
set_option maxRecDepth 100000 in
theorem contract (H : Type) (enc : TypeId × Value → H) (W : World) (base : Nat) (args : Array Value) (ds gs : List (DataW H)) (before : List MemPlace)
    (hval : ∀ (j : Nat) t v, Tryd.f3.params[j]? = some t → args[j]? = some v → Value.okWide Tryd.prog W .any base t v)
    (hW : DataW.Whole enc Tryd.prog Tryd.f3.params.toList Rows.wordMatchesReferenceSpec.vars false W args.toList ds gs before) (hL : laidMetH Tryd.prog Rows.wordMatchesReferenceRow.laid W) (hsh : W.ShapedOpen Tryd.prog) :
    Calls Tryd.prog 3 args W fun e W' => ∃ v, e = .returned v ∧ Rows.wordMatchesReferenceSpec.post enc Tryd.prog Tryd.f3 false true false false W args v W' := by
  have hW' := hW
  obtain ⟨p, q, hA0, hV, rfl, hfz, hnd⟩ := hW
  have hA : DataW.TrodAll enc Tryd.prog W 0 (fun _ => true) true Tryd.f3.params.toList args.toList ds p := hA0
  rw [Tryd.params3] at hA hval
  obtain ⟨v0, vs0, d0, ds0, p0, q0, hargs, rfl, rfl, h0, r0⟩ := trodAll_cons hA
  obtain ⟨v1, vs1, d1, ds1, p1, q1, rfl, rfl, rfl, h1, r1⟩ := trodAll_cons r0
  obtain ⟨v2, vs2, d2, ds2, p2, q2, rfl, rfl, rfl, h2, r2⟩ := trodAll_cons r1
  obtain ⟨rfl, rfl, rfl⟩ := trodAll_nil r2
  obtain rfl : args = #[v0, v1, v2] := by cases args; simp_all
  obtain ⟨a0, rfl, rfl, rfl, k0⟩ := open_int Tryd.underlying3 (hval 0 _ _ rfl rfl) h0
  obtain ⟨a1, rfl, rfl, rfl, k1⟩ := open_int Tryd.underlying3 (hval 1 _ _ rfl rfl) h1
  obtain ⟨a2, rfl, rfl, rfl, k2⟩ := Go.ChangeMaps.open_string Tryd.underlying9 (hval 2 _ _ rfl rfl) h2
  refine (wordMatches_law a0 a1 a2 W (wordT hL hsh) (bd_i64 k0) (bd_i64 k1) k2).mono fun e W' ⟨he, hb⟩ => ?_
  subst he
  obtain ⟨rfl, _⟩ := trodVars_none hV
  exact ⟨_, rfl, law_post laidOut (by kernel_rfl) rfl (by kernel_rfl) Tryd.underlying4 hW' rfl hb⟩

noncomputable def laidWorld (os : Os) : World := World.laidAll Tryd.prog os Rows.wordMatchesReferenceRow.laid
def args0 : Array Value := #[.int .i64 0, .int .i64 0, .string ⟨#[]⟩]
theorem laid_met (os : Os) : laidMet Tryd.prog Rows.wordMatchesReferenceRow.laid ((laidWorld os).forCall (fun _ _ => 0) ⟨#[], args0, []⟩).memory :=
  laidMet_laidAll _ (by kernel_rfl) (by kernel_rfl)
theorem reads (os : Os) {H : Type} (enc : TypeId × Value → H) : ∃ places, DataW.whole enc Tryd.prog ((laidWorld os).forCall (fun _ _ => 0) ⟨#[], args0, []⟩).memory Tryd.f3.params.toList Rows.wordMatchesReferenceSpec.vars false args0.toList 8 = some ([.lit (.int .i64 0), .lit (.int .i64 0), .lit (.string [])], [], places) :=
  ⟨[], by kernel_rfl⟩

set_option maxRecDepth 100000 in
theorem lifted (os : Os) (started : os.Started) (H : Type) (enc : TypeId × Value → H) (F : Stop.Interp) :
    ReturnsInHanded {} Tryd.checked os 3 .any ((OpenSpec.ofChange Rows.wordMatchesReferenceSpec).preRow enc Tryd.prog Tryd.f3 Rows.wordMatchesReferenceRow.domain false Rows.wordMatchesReferenceRow.laid) (((OpenSpec.ofChange Rows.wordMatchesReferenceSpec).at F).post enc Tryd.prog Tryd.f3 false true false false) := by
  obtain ⟨places, hx⟩ := reads os enc
  refine returnsInHanded_of_row (C := Tryd.checked) (s := OpenSpec.ofChange Rows.wordMatchesReferenceSpec) own started (by kernel_rfl) Tryd.func3
    (witness_row_at (enc := enc) (C := Tryd.checked) false (laidWorld os) args0 (World.laidAll_os _ _ _) (by kernel_rfl) (by kernel_rfl) (by kernel_rfl)
      (OpenSpec.preRow_of_cond 8 hx (by kernel_rfl) (fun k hk => by cases hk) (by kernel_rfl) (laid_met os))) ?_
  intro W base args ds gs before hval hW _ _ _ hL hsh _
  exact contract H enc W base args ds gs before hval hW hL hsh

theorem said : Rows.WordMatchesReferenceSaid :=
  OpenClaim.holds_of_cond 3 Tryd.f3 rfl rfl rfl rfl rfl rfl rfl ⟨rfl, rfl, rfl, rfl, rfl⟩ rfl rfl rfl rfl rfl (by kernel_rfl) Tryd.func3 (by kernel_rfl)
    (of_decide_eq_true (by kernel_rfl)) (by unfold Func.isWrapper; first | (rw [if_pos (by decide +kernel)]; kernel_rfl) | (rw [if_neg (by decide +kernel)]; exact ⟨rfl, rfl⟩))
    (fun os started H enc _ F => by rw [OpenClaim.pre_eq_preRow]; exact lifted os started H enc F)

theorem plain (f : FuncId) (fn : Func) (hf : Tryd.pinned.checked.prog.funcNamed "newswire/newswirelaw11.WordMatchesReference" = some f) (hfn : Tryd.pinned.checked.prog.funcs[f]? = some fn) :
    false = Tryd.pinned.checked.prog.looks [] ∧ ∀ (j : Nat) t, fn.params[j]? = some t → Tryd.pinned.checked.prog.wantsStandIn t = false := by
  obtain rfl : f = 3 := Option.some.inj ((show Tryd.prog.funcNamed "newswire/newswirelaw11.WordMatchesReference" = some 3 by kernel_rfl).symm.trans hf) |>.symm
  obtain rfl : fn = Tryd.f3 := (Option.some.inj (Tryd.func3.symm.trans hfn)).symm
  refine ⟨by kernel_rfl, fun j t ht => ?_⟩
  have all : (Tryd.f3.params.toList.all fun t => Tryd.prog.wantsStandIn t == false) = true := by kernel_rfl
  have := List.all_eq_true.1 all t (by rw [← Array.mem_def]; exact Array.mem_of_getElem? ht)
  exact (show Tryd.prog.wantsStandIn t = false by simpa using this)

/-- The statement. -/
theorem card : Rows.WordMatchesReferenceCardSaid :=
  Claim7.holds_tied_plain_at .later [] _ _ _ _ said (fun _ h => by cases h) (by kernel_rfl) (fun _ h => by cases h) wordMatchesReference_row_tie rfl ⟨rfl, rfl⟩ (by kernel_rfl) rfl plain (by kernel_rfl)
end wordMatchesReference
end Go.Proofs.YtebdpdmkehfgfaaDoor
