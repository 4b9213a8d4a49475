/- WordBack holds for every input: Number of Words of a number is this number, and what Number accepts are the words of its result. The tables are as the program's text lays them. -/
import Derived.Test.YtebdpdmkehfgfaaDoorWoZ
import Derived.Test.YtebdpdmkehfgfaaDoorWoFr
set_option linter.unusedVariables false
set_option linter.unusedSimpArgs false
namespace Go.Proofs.YtebdpdmkehfgfaaDoor
open Go.RowKit Go.ChangeShapes Go.WideShapes Go.ChangeAt
open Wo in
set_option maxRecDepth 100000 in
set_option maxHeartbeats 4000000 in
theorem wordBack_law (x0 n0 : Int) (o : Option Addr) (n c : Nat) (S : Nat → ByteArray) (w : World) (T : Wo.Tab w) (hx : -9223372036854775808 ≤ x0 ∧ x0 ≤ 9223372036854775807) (hn0 : -9223372036854775808 ≤ n0 ∧ n0 ≤ 9223372036854775807)
    (hn : n ≤ maxLen) (hs : ∀ i, i < n → (S i).size ≤ maxLen) (hcell : ∀ i, i < n → ∃ a, o = some a ∧ ∀ w', Below w.heap.size w w' → w'.cell? (a.add i) = some (.string (S i))) :
    Calls Tryd.prog 5 #[.int .i64 x0, .int .i64 n0, .slice o n c] w fun e w' => e = .returned (.bool true) ∧ Below w.heap.size w w' := by
  obtain ⟨k, hk, PK⟩ := pick_k x0 3 3 rfl (by decide) hx
  obtain ⟨m, hm6, PM⟩ := pick_k n0 1000000 1000000 rfl (by decide) hn0
  have HPK := Lib.hid PK
  have HPM := Lib.hid PM
  have HT := Lib.hid T
  have BB := Lib.hid (Below.refl w.heap.size w)
  have CF := Lib.hid (fun w' (hb : Below w.heap.size w w') => few_any o n c S w' hn hs (fun i hi => by
    obtain ⟨a, e, h⟩ := hcell i hi
    exact ⟨a, e, fun w2 hb2 => h w2 (Below.andThen hb hb2)⟩))
  have LA := Lib.hid (words_len k hm6)
  have WA := Lib.hid (words_small k hm6)
  have CA := Lib.hid (fun L hL W T => Words_k k m L m hk hL rfl hm6 W T)
  have CB := Lib.hid (fun L (hL : L = 1 + (k : Int)) oA cA W T (h1 : (words k m).length ≤ cA) (h2 : cA ≤ 9223372036854775807) (hS : SSl W oA (words k m)) => (show Calls Tryd.prog 26 #[.int .i64 L, .slice oA (words k m).length cA] W fun e w' => e = .returned (.tuple #[.int .i64 m, .int .i64 0]) ∧ Below W.heap.size W w' from by
    have h := Number_k k L hk hL oA (words k m).length cA (words k m) W T rfl (by have := LA.out; omega) h1 h2 (fun s hs => Nat.le_trans (WA.out s hs) (by decide)) hS
    rw [number_words k hm6] at h
    exact h))
  have CN := Lib.hid (fun L (hL : L = 1 + (k : Int)) o n c (l : List B) W T h1 h2 h3 h4 h5 h6 => Number_k k L hk hL o n c l W T h1 h2 h3 h4 h5 h6)
  have CW := Lib.hid (fun (j : Nat) (hj : j < 1000000) J (hJ : J = (j : Int)) L (hL : L = 1 + (k : Int)) W T => Words_k k j L J hk hL hJ hj W T)
  have NS := Lib.hid (fun l j h => number_some (k := k) (n := j) (l := l) h)
  obtain ⟨X, hX⟩ : ∃ X, X = fewL S (min n 10) := ⟨_, rfl⟩
  have XL := Lib.hid (show X.length ≤ 10 by rw [hX, fewL_length]; omega)
  have XS := Lib.hid (show ∀ s ∈ X, s.length ≤ 60 by rw [hX]; exact fewL_small _ _)
  rw [← hX] at CF
  generalize words k m = A at *
  clear T PK PM hcell hs hx hn0 hX
  go_enter Tryd.func5, Tryd.ntmps5
  go_wp2_with fail
  with_reducible refine Calls.mono (sane_any _ HT.out) ?_
  rintro e w1 ⟨rfl, hb⟩
  replace HT := Lib.hid (HT.out.next hb)
  replace BB := Lib.hid (Below.andThen BB.out hb)
  clear hb
  go_wp2_with fail
  with_reducible refine Calls.mono (HPK.out _) ?_
  rintro e w' ⟨rfl, rfl⟩
  go_wp2_with fail
  with_reducible refine Calls.mono (HPM.out _) ?_
  rintro e w' ⟨rfl, rfl⟩
  go_wp2_with fail
  with_reducible refine Calls.mono (CA.out _ (by rfl) _ HT.out) ?_
  rintro e w2 ⟨v, rfl, ho, hb⟩
  replace HT := Lib.hid (HT.out.next hb)
  replace BB := Lib.hid (Below.andThen BB.out hb)
  obtain ⟨oA, cA, rfl, hA1, hA2, -, hsl⟩ := ho.form; have SA := Lib.hid hsl; clear ho hsl
  clear hb
  go_wp2_with fail
  with_reducible refine Calls.mono (CB.out _ (by rfl) _ _ _ HT.out hA1 hA2 SA.out) ?_
  rintro e w3 ⟨rfl, hb⟩
  replace HT := Lib.hid (HT.out.next hb)
  replace SA := Lib.hid (SA.out.next hb)
  replace BB := Lib.hid (Below.andThen BB.out hb)
  clear hb
  go_wp2_with fail
  with_reducible refine Calls.mono (CF.out _ BB.out) ?_
  rintro e w4 ⟨v, rfl, ho, hb⟩
  replace HT := Lib.hid (HT.out.next hb)
  replace SA := Lib.hid (SA.out.next hb)
  replace BB := Lib.hid (Below.andThen BB.out hb)
  obtain ⟨oX, cX, rfl, hX1, hX2, -, hsl⟩ := ho.form; have SX := Lib.hid hsl; clear ho hsl
  clear hb
  go_wp2_with fail
  cases hr : number k X with
  | none =>
    have CX := Lib.hid (fun L hL W T hS => CN.out L hL oX X.length cX X W T rfl (by have := XL.out; omega) hX1 hX2 (fun s hs => Nat.le_trans (XS.out s hs) (by decide)) hS)
    rw [hr] at CX
    unfold numE at CX
    clear hr
    with_reducible refine Calls.mono (CX.out _ (by rfl) _ HT.out SX.out) ?_
    rintro e w5 ⟨rfl, hb⟩
    replace HT := Lib.hid (HT.out.next hb)
    replace SA := Lib.hid (SA.out.next hb)
    replace SX := Lib.hid (SX.out.next hb)
    replace BB := Lib.hid (Below.andThen BB.out hb)
    clear hb
    go_wp2_with fail
    go_ret
    exact ⟨rfl, BB.out⟩
  | some j =>
    have CX := Lib.hid (fun L hL W T hS => CN.out L hL oX X.length cX X W T rfl (by have := XL.out; omega) hX1 hX2 (fun s hs => Nat.le_trans (XS.out s hs) (by decide)) hS)
    rw [hr] at CX
    unfold numE at CX
    obtain ⟨hj6, hjX⟩ := NS.out X j hr
    have CJ := Lib.hid (fun L hL W T => CW.out j hj6 j rfl L hL W T)
    rw [hjX] at CJ
    clear hr hjX
    with_reducible refine Calls.mono (CX.out _ (by rfl) _ HT.out SX.out) ?_
    rintro e w5 ⟨rfl, hb⟩
    replace HT := Lib.hid (HT.out.next hb)
    replace SA := Lib.hid (SA.out.next hb)
    replace SX := Lib.hid (SX.out.next hb)
    replace BB := Lib.hid (Below.andThen BB.out hb)
    clear hb
    go_wp2_with fail
    with_reducible refine Calls.mono (CJ.out _ (by rfl) _ HT.out) ?_
    rintro e w6 ⟨v, rfl, ho, hb⟩
    replace HT := Lib.hid (HT.out.next hb)
    replace SX := Lib.hid (SX.out.next hb)
    replace BB := Lib.hid (Below.andThen BB.out hb)
    obtain ⟨oY, cY, rfl, hY1, hY2, -, hsl⟩ := ho.form; have SY := Lib.hid hsl; clear ho hsl
    clear hb
    go_wp2_with fail
    have CS := Lib.hid (show Calls Tryd.prog 18 #[.slice oY X.length cY, .slice oX X.length cX] w6 fun e w' => e = .returned (.bool true) ∧ Below w6.heap.size w6 w' from by
      have h := Same_any oY oX X.length cY X.length cX X X w6 rfl rfl (by have := XL.out; omega) (by have := XL.out; omega) SY.out SX.out
      rw [decide_eq_true (rfl : X = X)] at h
      exact h)
    with_reducible refine Calls.mono (CS.out) ?_
    rintro e w7 ⟨rfl, hb⟩
    replace HT := Lib.hid (HT.out.next hb)
    replace BB := Lib.hid (Below.andThen BB.out hb)
    clear hb
    go_wp2_with fail
    go_ret
    exact ⟨rfl, BB.out⟩
namespace wordBack
set_option maxRecDepth 100000 in
theorem contract (H : Type) (enc : TypeId × Value → H) (W : World) (base : Nat) (args : Array Value) (ds gs : List (DataW H)) (before : List MemPlace)
    (hval : ∀ (j : Nat) t v, Tryd.f5.params[j]? = some t → args[j]? = some v → Value.okWide Tryd.prog W .any base t v)
    (hW : DataW.Whole enc Tryd.prog Tryd.f5.params.toList Rows.wordBackSpec.vars false W args.toList ds gs before) (hL : laidMetH Tryd.prog Rows.wordBackRow.laid W) (hsh : W.ShapedOpen Tryd.prog) :
    Calls Tryd.prog 5 args W fun e W' => ∃ v, e = .returned v ∧ Rows.wordBackSpec.post enc Tryd.prog Tryd.f5 false true false false W args v W' := by
  have hW' := hW
  obtain ⟨p, q, hA0, hV, rfl, hfz, hnd⟩ := hW
  have hA : DataW.TrodAll enc Tryd.prog W 0 (fun _ => true) true Tryd.f5.params.toList args.toList ds p := hA0
  rw [Tryd.params5] at hA hval
  obtain ⟨v0, vs0, d0, ds0, p0, q0, hargs, rfl, rfl, h0, r0⟩ := trodAll_cons hA
  obtain ⟨v1, vs1, d1, ds1, p1, q1, rfl, rfl, rfl, h1, r1⟩ := trodAll_cons r0
  obtain ⟨v2, vs2, d2, ds2, p2, q2, rfl, rfl, rfl, h2, r2⟩ := trodAll_cons r1
  obtain ⟨rfl, rfl, rfl⟩ := trodAll_nil r2
  obtain rfl : args = #[v0, v1, v2] := by cases args; simp_all
  obtain ⟨a0, rfl, rfl, rfl, k0⟩ := open_int Tryd.underlying3 (hval 0 _ _ rfl rfl) h0
  obtain ⟨a1, rfl, rfl, rfl, k1⟩ := open_int Tryd.underlying3 (hval 1 _ _ rfl rfl) h1
  obtain ⟨oa2, la2, ca2, a2, rfl, ma2, k2, ga2⟩ := open_strS Tryd.underlying25 Tryd.underlying9 (by kernel_rfl) (hval 2 _ _ rfl rfl) h2
  refine (wordBack_law a0 a1 oa2 la2 ca2 a2 W (wordT hL hsh) (bd_i64 k0) (bd_i64 k1) ma2 k2 ga2).mono fun e W' ⟨he, hb⟩ => ?_
  subst he
  obtain ⟨rfl, _⟩ := trodVars_none hV
  exact ⟨_, rfl, law_post laidOut (by kernel_rfl) rfl (by kernel_rfl) Tryd.underlying4 hW' rfl hb⟩

noncomputable def laidWorld (os : Os) : World := World.laidAll Tryd.prog os Rows.wordBackRow.laid
def args0 : Array Value := #[.int .i64 0, .int .i64 0, .slice none 0 0]
theorem laid_met (os : Os) : laidMet Tryd.prog Rows.wordBackRow.laid ((laidWorld os).forCall (fun _ _ => 0) ⟨#[], args0, []⟩).memory :=
  laidMet_laidAll _ (by kernel_rfl) (by kernel_rfl)
theorem reads (os : Os) {H : Type} (enc : TypeId × Value → H) : ∃ places, DataW.whole enc Tryd.prog ((laidWorld os).forCall (fun _ _ => 0) ⟨#[], args0, []⟩).memory Tryd.f5.params.toList Rows.wordBackSpec.vars false args0.toList 8 = some ([.lit (.int .i64 0), .lit (.int .i64 0), .nil], [], places) :=
  ⟨[], by kernel_rfl⟩

set_option maxRecDepth 100000 in
theorem lifted (os : Os) (started : os.Started) (H : Type) (enc : TypeId × Value → H) (F : Stop.Interp) :
    ReturnsInHanded {} Tryd.checked os 5 .any ((OpenSpec.ofChange Rows.wordBackSpec).preRow enc Tryd.prog Tryd.f5 Rows.wordBackRow.domain false Rows.wordBackRow.laid) (((OpenSpec.ofChange Rows.wordBackSpec).at F).post enc Tryd.prog Tryd.f5 false true false false) := by
  obtain ⟨places, hx⟩ := reads os enc
  refine returnsInHanded_of_row (C := Tryd.checked) (s := OpenSpec.ofChange Rows.wordBackSpec) own started (by kernel_rfl) Tryd.func5
    (witness_row_at (enc := enc) (C := Tryd.checked) false (laidWorld os) args0 (World.laidAll_os _ _ _) (by kernel_rfl) (by kernel_rfl) (by kernel_rfl)
      (OpenSpec.preRow_of_cond 8 hx (by kernel_rfl) (fun k hk => by cases hk) (by kernel_rfl) (laid_met os))) ?_
  intro W base args ds gs before hval hW _ _ _ hL hsh _
  exact contract H enc W base args ds gs before hval hW hL hsh

theorem said : Rows.WordBackSaid :=
  OpenClaim.holds_of_cond 5 Tryd.f5 rfl rfl rfl rfl rfl rfl rfl ⟨rfl, rfl, rfl, rfl, rfl⟩ rfl rfl rfl rfl rfl (by kernel_rfl) Tryd.func5 (by kernel_rfl)
    (of_decide_eq_true (by kernel_rfl)) (by unfold Func.isWrapper; first | (rw [if_pos (by decide +kernel)]; kernel_rfl) | (rw [if_neg (by decide +kernel)]; exact ⟨rfl, rfl⟩))
    (fun os started H enc _ F => by rw [OpenClaim.pre_eq_preRow]; exact lifted os started H enc F)

theorem plain (f : FuncId) (fn : Func) (hf : Tryd.pinned.checked.prog.funcNamed "newswire/newswirelaw11.WordBack" = some f) (hfn : Tryd.pinned.checked.prog.funcs[f]? = some fn) :
    false = Tryd.pinned.checked.prog.looks [] ∧ ∀ (j : Nat) t, fn.params[j]? = some t → Tryd.pinned.checked.prog.wantsStandIn t = false := by
  obtain rfl : f = 5 := Option.some.inj ((show Tryd.prog.funcNamed "newswire/newswirelaw11.WordBack" = some 5 by kernel_rfl).symm.trans hf) |>.symm
  obtain rfl : fn = Tryd.f5 := (Option.some.inj (Tryd.func5.symm.trans hfn)).symm
  refine ⟨by kernel_rfl, fun j t ht => ?_⟩
  have all : (Tryd.f5.params.toList.all fun t => Tryd.prog.wantsStandIn t == false) = true := by kernel_rfl
  have := List.all_eq_true.1 all t (by rw [← Array.mem_def]; exact Array.mem_of_getElem? ht)
  exact (show Tryd.prog.wantsStandIn t = false by simpa using this)

/-- The statement. -/
theorem card : Rows.WordBackCardSaid :=
  Claim7.holds_tied_plain_at .later [] _ _ _ _ said (fun _ h => by cases h) (by kernel_rfl) (fun _ h => by cases h) wordBack_row_tie rfl ⟨rfl, rfl⟩ (by kernel_rfl) rfl plain (by kernel_rfl)
end wordBack
end Go.Proofs.YtebdpdmkehfgfaaDoor
