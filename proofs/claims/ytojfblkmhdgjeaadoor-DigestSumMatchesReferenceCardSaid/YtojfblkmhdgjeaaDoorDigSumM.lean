/- For every input, DigestSumMatchesReference returns true; the rounds' table holds what the program's text lays. -/
import Derived.Test.YtojfblkmhdgjeaaDoorDigRC
import Derived.Test.YtojfblkmhdgjeaaDoorDigW3
namespace Go.Proofs.YtojfblkmhdgjeaaDoor
open Go.RowKit Go.ChangeShapes Go.WideShapes Go.ChangeAt

def cut500 (s : ByteArray) : ByteArray := s.extract 0 (min (s.size : Int) 500).toNat
theorem cut500_size (s : ByteArray) : (cut500 s).size ≤ 500 := by
  unfold cut500
  rw [ByteArray.size_extract]
  omega

set_option maxRecDepth 100000 in
set_option maxHeartbeats 4000000 in
theorem digestSum_all (s t : ByteArray) (w : World) (T : Tab w) (hsz : s.size ≤ maxLen) (htz : t.size ≤ maxLen) :
    Calls Tryd.prog 3 #[.string s, .string t] w fun r w' => r = .returned (.bool true) ∧ Below w.heap.size w w' := by
  have HT := Lib.hid T
  have BB := Lib.hid (Below.refl w.heap.size w)
  have s60 : s.extract 0 (min (s.size : Int) 500).toNat = cut500 s := rfl
  have t60 : t.extract 0 (min (t.size : Int) 500).toNat = cut500 t := rfl
  have m1 : 0 ≤ min (s.size : Int) 500 := by omega
  have m2 : min (s.size : Int) 500 ≤ (s.size : Int) := by omega
  have m3 : 0 ≤ min (t.size : Int) 500 := by omega
  have m4 : min (t.size : Int) 500 ≤ (t.size : Int) := by omega
  unfold maxLen at hsz htz
  have s6 := cut500_size s
  have t6 := cut500_size t
  generalize cut500 s = s' at *
  generalize cut500 t = t' at *
  have D1 := Lib.hid (fun W (T' : Tab W) => Sum_any s' W T' (by omega))
  have D2 := Lib.hid (fun W (T' : Tab W) => Leaf_any t' W T' (by omega))
  have D3 := Lib.hid (fun W (T' : Tab W) => Node_any s' t' W T' (by omega))
  have D4 := Lib.hid (fun W (T' : Tab W) => Chain_any t' s' W T' (by omega))
  have R1 := Lib.hid (fun W => refSum_any s' W (by omega))
  have R2 := Lib.hid (fun W => refLeaf_any t' W (by omega))
  have R3 := Lib.hid (fun W => refNode_any s' t' W (by omega) (by omega))
  have R4 := Lib.hid (fun W => refChain_any t' s' W (by omega) (by omega))
  clear T s6 t6
  generalize sumS s' = x1 at *
  generalize leafS t' = x2 at *
  generalize nodeS s' t' = x3 at *
  generalize chainS t' s' = x4 at *
  go_enter Tryd.func3, Tryd.ntmps3
  go_wp2_with fail
  with_reducible refine Calls.mono (sane_any _ HT.out) ?_
  rintro e w1 ⟨rfl, hb⟩
  replace HT := Lib.hid (HT.out.next hb)
  replace BB := Lib.hid (Below.andThen BB.out hb)
  clear hb
  go_wp2_with fail
  with_reducible refine Calls.mono (D1.out _ HT.out) ?_
  rintro e a1 ⟨rfl, hb⟩
  replace HT := Lib.hid (HT.out.next hb)
  replace BB := Lib.hid (Below.andThen BB.out hb)
  clear hb
  go_wp2_with fail
  with_reducible refine Calls.mono (R1.out _) ?_
  rintro e b1 ⟨rfl, hb⟩
  replace HT := Lib.hid (HT.out.next hb)
  replace BB := Lib.hid (Below.andThen BB.out hb)
  clear hb
  go_wp2_with fail
  with_reducible refine Calls.mono (D2.out _ HT.out) ?_
  rintro e a2 ⟨rfl, hb⟩
  replace HT := Lib.hid (HT.out.next hb)
  replace BB := Lib.hid (Below.andThen BB.out hb)
  clear hb
  go_wp2_with fail
  with_reducible refine Calls.mono (R2.out _) ?_
  rintro e b2 ⟨rfl, hb⟩
  replace HT := Lib.hid (HT.out.next hb)
  replace BB := Lib.hid (Below.andThen BB.out hb)
  clear hb
  go_wp2_with fail
  with_reducible refine Calls.mono (D3.out _ HT.out) ?_
  rintro e a3 ⟨rfl, hb⟩
  replace HT := Lib.hid (HT.out.next hb)
  replace BB := Lib.hid (Below.andThen BB.out hb)
  clear hb
  go_wp2_with fail
  with_reducible refine Calls.mono (R3.out _) ?_
  rintro e b3 ⟨rfl, hb⟩
  replace HT := Lib.hid (HT.out.next hb)
  replace BB := Lib.hid (Below.andThen BB.out hb)
  clear hb
  go_wp2_with fail
  with_reducible refine Calls.mono (D4.out _ HT.out) ?_
  rintro e a4 ⟨rfl, hb⟩
  replace HT := Lib.hid (HT.out.next hb)
  replace BB := Lib.hid (Below.andThen BB.out hb)
  clear hb
  go_wp2_with fail
  with_reducible refine Calls.mono (R4.out _) ?_
  rintro e b4 ⟨rfl, hb⟩
  replace HT := Lib.hid (HT.out.next hb)
  replace BB := Lib.hid (Below.andThen BB.out hb)
  clear hb
  go_wp2_with fail
  go_ret
  exact ⟨rfl, BB.out⟩
theorem digestSum_law (s t : ByteArray) (w : World) (T : Tab w) (hsz : s.size ≤ maxLen) (htz : t.size ≤ maxLen) :
    Calls Tryd.prog 3 #[.string s, .string t] w fun r w' => r = .returned (.bool true) ∧ Below w.heap.size w w' := digestSum_all s t w T hsz htz
namespace digestSumMatchesReference
set_option maxRecDepth 100000 in
theorem contract (H : Type) (enc : TypeId × Value → H) (W : World) (base : Nat) (args : Array Value) (ds gs : List (DataW H)) (before : List MemPlace)
    (hval : ∀ (j : Nat) t v, Tryd.f3.params[j]? = some t → args[j]? = some v → Value.okWide Tryd.prog W .any base t v)
    (hW : DataW.Whole enc Tryd.prog Tryd.f3.params.toList Rows.digestSumMatchesReferenceSpec.vars false W args.toList ds gs before) (hL : laidMetH Tryd.prog Rows.digestSumMatchesReferenceRow.laid W) :
    Calls Tryd.prog 3 args W fun e W' => ∃ v, e = .returned v ∧ Rows.digestSumMatchesReferenceSpec.post enc Tryd.prog Tryd.f3 false true false false W args v W' := by
  have hW' := hW
  obtain ⟨p, q, hA0, hV, rfl, hfz, hnd⟩ := hW
  have hA : DataW.TrodAll enc Tryd.prog W 0 (fun _ => true) true Tryd.f3.params.toList args.toList ds p := hA0
  rw [Tryd.params3] at hA hval
  obtain ⟨v0, vs0, d0, ds0, p0, q0, hargs, rfl, rfl, h0, r0⟩ := trodAll_cons hA
  obtain ⟨v1, vs1, d1, ds1, p1, q1, rfl, rfl, rfl, h1, r1⟩ := trodAll_cons r0
  obtain ⟨rfl, rfl, rfl⟩ := trodAll_nil r1
  obtain rfl : args = #[v0, v1] := by cases args; simp_all
  obtain ⟨a0, rfl, rfl, rfl, k0⟩ := Go.ChangeMaps.open_string Tryd.underlying9 (hval 0 _ _ rfl rfl) h0
  obtain ⟨a1, rfl, rfl, rfl, k1⟩ := Go.ChangeMaps.open_string Tryd.underlying9 (hval 1 _ _ rfl rfl) h1
  refine (digestSum_law a0 a1 W (tab hL) k0 k1).mono fun e W' ⟨he, hb⟩ => ?_
  subst he
  obtain ⟨rfl, _⟩ := trodVars_none hV
  exact ⟨_, rfl, law_post laidOut (by kernel_rfl) rfl (by kernel_rfl) Tryd.underlying4 hW' rfl hb⟩

def args0 : Array Value := #[.string ⟨#[]⟩, .string ⟨#[]⟩]
theorem laid_met (os : Os) : laidMet Tryd.prog Rows.digestSumMatchesReferenceRow.laid ((laidWorld os).forCall (fun _ _ => 0) ⟨#[], args0, []⟩).memory :=
  laidMet_of_run' 8 (by kernel_rfl) (by kernel_rfl)
theorem reads (os : Os) {H : Type} (enc : TypeId × Value → H) : ∃ places, DataW.whole enc Tryd.prog ((laidWorld os).forCall (fun _ _ => 0) ⟨#[], args0, []⟩).memory Tryd.f3.params.toList Rows.digestSumMatchesReferenceSpec.vars false args0.toList 8 = some ([.lit (.string []), .lit (.string [])], [], places) :=
  ⟨[], by kernel_rfl⟩

set_option maxRecDepth 100000 in
theorem lifted (os : Os) (started : os.Started) (H : Type) (enc : TypeId × Value → H) (F : Stop.Interp) :
    ReturnsInHanded {} Tryd.checked os 3 .any ((OpenSpec.ofChange Rows.digestSumMatchesReferenceSpec).preRow enc Tryd.prog Tryd.f3 Rows.digestSumMatchesReferenceRow.domain false Rows.digestSumMatchesReferenceRow.laid) (((OpenSpec.ofChange Rows.digestSumMatchesReferenceSpec).at F).post enc Tryd.prog Tryd.f3 false true false false) := by
  obtain ⟨places, hx⟩ := reads os enc
  refine returnsInHanded_of_row (C := Tryd.checked) (s := OpenSpec.ofChange Rows.digestSumMatchesReferenceSpec) own started (by kernel_rfl) Tryd.func3
    (witness_row_at (enc := enc) (C := Tryd.checked) false (laidWorld os) args0 rfl (by kernel_rfl) (by kernel_rfl) (by kernel_rfl)
      (OpenSpec.preRow_of_cond 8 hx (by kernel_rfl) (fun k hk => by cases hk) (by kernel_rfl) (laid_met os))) ?_
  intro W base args ds gs before hval hW _ _ _ hL _ _
  exact contract H enc W base args ds gs before hval hW hL

theorem said : Rows.DigestSumMatchesReferenceSaid :=
  OpenClaim.holds_of_cond 3 Tryd.f3 rfl rfl rfl rfl rfl rfl rfl ⟨rfl, rfl, rfl, rfl, rfl⟩ rfl rfl rfl rfl rfl (by kernel_rfl) Tryd.func3 (by kernel_rfl)
    (of_decide_eq_true (by kernel_rfl)) (by unfold Func.isWrapper; first | (rw [if_pos (by decide +kernel)]; kernel_rfl) | (rw [if_neg (by decide +kernel)]; exact ⟨rfl, rfl⟩))
    (fun os started H enc _ F => by rw [OpenClaim.pre_eq_preRow]; exact lifted os started H enc F)

theorem plain (f : FuncId) (fn : Func) (hf : Tryd.pinned.checked.prog.funcNamed "newswire/newswirelaw02.DigestSumMatchesReference" = some f) (hfn : Tryd.pinned.checked.prog.funcs[f]? = some fn) :
    false = Tryd.pinned.checked.prog.looks [] ∧ ∀ (j : Nat) t, fn.params[j]? = some t → Tryd.pinned.checked.prog.wantsStandIn t = false := by
  obtain rfl : f = 3 := Option.some.inj ((show Tryd.prog.funcNamed "newswire/newswirelaw02.DigestSumMatchesReference" = some 3 by kernel_rfl).symm.trans hf) |>.symm
  obtain rfl : fn = Tryd.f3 := (Option.some.inj (Tryd.func3.symm.trans hfn)).symm
  refine ⟨by kernel_rfl, fun j t ht => ?_⟩
  have all : (Tryd.f3.params.toList.all fun t => Tryd.prog.wantsStandIn t == false) = true := by kernel_rfl
  have := List.all_eq_true.1 all t (by rw [← Array.mem_def]; exact Array.mem_of_getElem? ht)
  exact (show Tryd.prog.wantsStandIn t = false by simpa using this)

/-- The statement. -/
theorem card : Rows.DigestSumMatchesReferenceCardSaid :=
  Claim7.holds_tied_plain_at .later [] _ _ _ _ said (fun _ h => by cases h) (by kernel_rfl) (fun _ h => by cases h) digestSumMatchesReference_row_tie rfl ⟨rfl, rfl⟩ (by kernel_rfl) rfl plain (by kernel_rfl)
end digestSumMatchesReference
end Go.Proofs.YtojfblkmhdgjeaaDoor
