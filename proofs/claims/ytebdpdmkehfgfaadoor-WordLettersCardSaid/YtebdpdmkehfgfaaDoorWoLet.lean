/- WordLetters holds for every input: the words of a number are number words, consist of lower-case letters and hyphens, and are at most 9; a word with any other byte is no number word. The tables are as the program's text lays them. -/
import Derived.Test.YtebdpdmkehfgfaaDoorWoZ
import Derived.Test.YtebdpdmkehfgfaaDoorWoFr
import Derived.Deep.RegionHeld3
set_option linter.unusedVariables false
set_option linter.unusedSimpArgs false
namespace Go.Proofs.YtebdpdmkehfgfaaDoor
open Go.RowKit Go.ChangeShapes Go.WideShapes Go.ChangeAt
namespace Wo
theorem run_one_byteL {P : Program} (w : World) (src dst e : TypeId) (b cap : Nat) (x : Int) (hs : P.underlying src = some (.slice e)) (he : P.underlying e = some (.int .u8)) (hd : P.underlying dst = some .string) (hx : 0 ≤ x ∧ x < 256)
    (h : w.cell? ⟨b, 0, none⟩ = some (.int .u8 x)) : (convert src dst (.slice (some ⟨b, 0, none⟩) 1 cap)).run P w = .ok (.string ⟨#[UInt8.ofNat x.toNat]⟩) w :=
  run_convert_bytes_back w src dst e ⟨b, 0, none⟩ cap [UInt8.ofNat x.toNat] hs he hd fun j hj => by
    obtain rfl : j = 0 := by simpa using hj
    have e : Addr.add ⟨b, 0, none⟩ 0 = ⟨b, 0, none⟩ := by unfold Addr.add; split <;> simp_all
    rw [e, h]
    simp
    omega
/-- new blocks alone since v -/
def Since (v w : World) : Prop := Below v.heap.size v w
theorem Since.next {v w w' : World} (h : Since v w) (hb : Below w.heap.size w w') : Since v w' := Below.andThen h hb
theorem plain_parts {s : B} (h : Wo.plain s = true) : s ≠ [] ∧ s.all plB = true := by
  unfold Wo.plain at h
  rw [Bool.and_eq_true] at h
  exact ⟨by simpa using h.1, h.2⟩
theorem empty_yes {s : B} (h : s ≠ []) : (bs s).toList.isEmpty = false := by
  rw [ByteArray.toList_eq, bs_list]
  cases s with
  | nil => exact absurd rfl h
  | cons a r => rfl
end Wo
/-- the conversion of one byte -/
def convB : Op := Op.convert 45 9 (Operand.tmp 97)
attribute [local go_sem] convB
open Wo in
set_option maxRecDepth 100000 in
set_option maxHeartbeats 8000000 in
theorem wordLetters_law (x0 n0 : Int) (s : ByteArray) (ch at0 : Int) (w : World) (T : Wo.Tab w) (hx : -9223372036854775808 ≤ x0 ∧ x0 ≤ 9223372036854775807) (hn : -9223372036854775808 ≤ n0 ∧ n0 ≤ 9223372036854775807) (hs : s.size ≤ maxLen) (hch : 0 ≤ ch ∧ ch ≤ 255) (hat : -9223372036854775808 ≤ at0 ∧ at0 ≤ 9223372036854775807) :
    Calls Tryd.prog 7 #[.int .i64 x0, .int .i64 n0, .string s, .int .u8 ch, .int .i64 at0] w fun e w' => e = .returned (.bool true) ∧ Below w.heap.size w w' := by
  obtain ⟨k, hk, PK⟩ := pick_k x0 3 3 rfl (by decide) hx
  obtain ⟨m, hm6, PM⟩ := pick_k n0 1000000 1000000 rfl (by decide) hn
  have HPK := Lib.hid PK
  have HPM := Lib.hid PM
  have HT := Lib.hid T
  have BB := Lib.hid (Below.refl w.heap.size w)
  have LA := Lib.hid (words_len k hm6)
  have WA := Lib.hid (words_small k hm6)
  have IA := Lib.hid (words_is k hk hm6)
  have CA := Lib.hid (fun L hL W T => Words_k k m L m hk hL rfl hm6 W T)
  have CI := Lib.hid (fun (s : B) (hs : s.length ≤ 1000) L (hL : L = 1 + (k : Int)) W T => Is_k k L hk hL s (by omega) W T)
  have IP := Lib.hid (fun (s : B) h => plain_parts (is_plain k hk (s := s) h))
  generalize words k m = A at *
  obtain ⟨N, hN⟩ : ∃ N, A.length = N := ⟨_, rfl⟩
  have HN := Lib.hid hN
  have N1 : 1 ≤ N := by rw [← hN]; exact LA.out.1
  have N9 : N ≤ 9 := by rw [← hN]; exact LA.out.2
  obtain ⟨p, hp, PP⟩ := pick_k at0 N N rfl (by omega) hat
  have HPP := Lib.hid PP
  obtain ⟨a, ha⟩ : ∃ a, A.getD p [] = a := ⟨_, rfl⟩
  have HA := Lib.hid ha
  have ha100 : a.length ≤ 100 := by rw [← ha]; exact getD_small WA.out p
  obtain ⟨i0, hi0, PI⟩ := pick_k at0 (a.length + 1) ((a.length : Int) + 1) (by omega) (by omega) hat
  have HPI := Lib.hid PI
  unfold maxLen at hs
  clear T PK PM PP PI hx hn hat hN ha LA
  go_enter Tryd.func7, Tryd.ntmps7
  go_wp2_with fail
  with_reducible refine Calls.mono (sane_any _ HT.out) ?_
  rintro e w1 ⟨rfl, hb⟩
  replace HT := Lib.hid (HT.out.next hb)
  replace BB := Lib.hid (Below.andThen BB.out hb)
  clear hb
  go_wp2_with fail
  with_reducible refine Calls.mono (HPK.out _) ?_
  rintro e w' ⟨rfl, rfl⟩
  go_wp2_with fail
  with_reducible refine Calls.mono (HPM.out _) ?_
  rintro e w' ⟨rfl, rfl⟩
  go_wp2_with fail
  with_reducible refine Calls.mono (CA.out _ (by rfl) _ HT.out) ?_
  rintro e w2 ⟨v, rfl, ho, hb⟩
  replace HT := Lib.hid (HT.out.next hb)
  replace BB := Lib.hid (Below.andThen BB.out hb)
  obtain ⟨oA, cA, rfl, hA1, hA2, -, hsl⟩ := ho.form; have SA := Lib.hid hsl; clear ho hsl; rw [HN.out] at hA1 ⊢
  clear hb
  go_wp2_with fail
  have HT0 := Lib.hid HT.out
  go_loopw [15] (fun iv wr => ∃ i : Nat, iv = .int .i64 i ∧ i ≤ N ∧ Below w2.heap.size w2 wr) (fun iv _ => N - (intOf iv).toNat)
  case atStart => exact ⟨0, rfl, Nat.zero_le _, Below.refl _ _⟩
  case round =>
    obtain ⟨i, rfl, hi, hB⟩ := hrel
    have HTr := Lib.hid (HT0.out.next hB)
    have SAr := Lib.hid (SA.out.next hB)
    have HBr := Lib.hid hB
    clear hB
    obtain ⟨b1, f1, e1, hb1, hc1⟩ := SAr.out.cells (fun e => by have := HN.out; rw [e] at this; simp at this; omega)
    by_cases hlt : i < N
    · have k1 := hc1 i _ (getD_get (by rw [HN.out]; exact hlt))
      have hmem := IA.out (A.getD i []) (by
        rw [List.getD_eq_getElem?_getD, List.getElem?_eq_getElem (by rw [HN.out]; exact hlt), Option.getD_some]
        exact List.getElem_mem _)
      have hz := getD_small WA.out i
      generalize A.getD i [] = t at *
      have CIt := Lib.hid (fun L hL W T => CI.out t (by omega) L hL W T)
      rw [hmem.1] at CIt
      obtain ⟨q1, q2⟩ := plain_parts hmem.2
      have CP := Lib.hid (fun W => plain_any t W (by omega))
      rw [q2] at CP
      have em := empty_yes q1
      have HK1 := Lib.hid k1
      have HL1 := Lib.hid hb1
      subst e1
      clear hmem q1 q2 hc1
      go_wp2_with fail
      with_reducible refine Calls.mono (CIt.out _ (by rfl) _ HTr.out) ?_
      rintro e w4 ⟨rfl, hb⟩
      have k2 : w4.cell? ⟨b1, f1 + i, none⟩ = some (sV t) := (hb.cell (p := ⟨b1, f1 + i, none⟩) HL1.out).trans HK1.out
      have l2 : b1 < w4.heap.size := Nat.lt_of_lt_of_le HL1.out hb.size
      have HB4 := Lib.hid (Below.andThen HBr.out hb)
      clear hb k1 hb1
      go_wp2_with fail
      with_reducible refine Calls.mono (CP.out _) ?_
      rintro e w' ⟨rfl, rfl⟩
      go_wp2_with fail
      go_roundw
      case rel => exact ⟨i + 1, by go_num, by omega, HB4.out⟩
      case measure => simp [intOf]; omega
    · obtain rfl : i = N := by omega
      have k1 := hc1 p _ (getD_get (by rw [HN.out]; exact hp))
      rw [HA.out] at k1
      subst e1
      clear hc1
      go_wp2_with fail
      with_reducible refine Calls.mono (HPP.out _) ?_
      rintro e w' ⟨rfl, rfl⟩
      have zl : ((bs a).size : Int) = a.length := by rw [bs_size]
      go_wp2_with fail
      with_reducible refine Calls.mono (HPI.out _) ?_
      rintro e w' ⟨rfl, rfl⟩
      go_upto_region 16 with (fail)
      have m1 : 0 ≤ min (s.size : Int) 60 := by omega
      have m2 : min (s.size : Int) 60 ≤ s.size := by omega
      have hx60 := cut_bs s
      have hcB := cutB_len s
      generalize cutB s = x at *
      have hcv := (fun (W : World) (b cap : Nat) (c0 : W.cell? ⟨b, 0, none⟩ = some (.int .u8 ch)) =>
        run_one_byteL (P := Tryd.prog) W 45 9 5 b cap ch (by kernel_rfl) (by kernel_rfl) (by kernel_rfl) (by omega) c0)
      obtain ⟨V, hV⟩ : ∃ V, bs a = V := ⟨_, rfl⟩
      rw [show sV a = Value.string V from congrArg Value.string hV]
      have za : V.size = a.length := by rw [← hV, bs_size]
      have z1 : (V.extract 0 i0).size = i0 := by rw [ByteArray.size_extract]; omega
      have z2 : (⟨#[UInt8.ofNat ch.toNat]⟩ : ByteArray).size = 1 := rfl
      have z3 : (V.extract i0 V.size).size = V.size - i0 := by rw [ByteArray.size_extract]; omega
      have c1 : (0 : Int) ≤ i0 := by omega
      have c2 : (i0 : Int) ≤ V.size := by omega
      have c5 : ¬ (9223372036854775807 < i0 + 1) := by omega
      have c6 : ¬ (9223372036854775807 < i0 + 1 + (V.size - i0)) := by omega
      have v100 : V.size ≤ 100 := by omega
      clear zl k1 za hV
      rw [show Op.convert 45 9 (Operand.tmp 97) = convB from rfl]
      (go_region_held3 (fun _ => True) (first | trivial | go_keep) (fail))
      all_goals
        have hU2 : (V.extract 0 i0 ++ ⟨#[UInt8.ofNat ch.toNat]⟩ ++ V.extract i0 V.size).size ≤ 1000 := by
          rw [ByteArray.size_append, ByteArray.size_append, z1, z2, z3]
          omega
        clear hcv z1 z2 z3 c1 c2 c5 c6 m1 m2 hx60
        generalize V.extract 0 i0 ++ ⟨#[UInt8.ofNat ch.toNat]⟩ ++ V.extract i0 V.size = U2 at *
        obtain ⟨u, rfl⟩ := exists_bs U2
        rw [bs_size] at hU2
        generalize hq : World.drew _ = v12
        obtain ⟨bS, ebS⟩ : ∃ b, b = wr.heap.size + 1 := ⟨_, rfl⟩
        have L := Lib.hid (show Row v12 bS 9 [sV x, sV u] from by
          rw [← hq, ebS]
          have h := Row.new (wr.alloc (.cells #[.int .u8 ch] 5)) 9 [sV x, sV u]
          rw [World.size_alloc] at h
          exact h.drew)
        have hb : Below wr.heap.size wr v12 := by rw [← hq]; exact (((Below.refl _ _).alloc (Nat.le_refl _) _).alloc (by simp) _).drew
        rw [← ebS]
        have HTv := Lib.hid (HTr.out.next hb)
        have HBv := Lib.hid (Below.andThen BB.out (Below.andThen HBr.out hb))
        clear hq ebS hb
        go_wp2_with fail
        go_loopw [106] (fun iv wx => ∃ j : Nat, j ≤ 2 ∧ iv = .int .i64 j ∧ Below v12.heap.size v12 wx) (fun iv _ => 2 - (intOf iv).toNat)
        case atStart => exact ⟨0, by omega, rfl, Below.refl _ _⟩
        case round =>
          obtain ⟨j, hj, rfl, hB⟩ := hrel
          have HTx := Lib.hid (HTv.out.next hB)
          have Lx := Lib.hid (L.out.next hB)
          have HBx := Lib.hid hB
          clear hB
          have hj3 : j = 0 ∨ j = 1 ∨ j = 2 := by omega
          rcases hj3 with rfl | rfl | rfl
          · have cL := Lx.out.cell 0
            have lL := Lx.out.lt
            simp only [List.getElem?_cons_zero, List.getElem?_cons_succ] at cL
            cases hw : isW k x
            · skip
              have CIt := Lib.hid (fun L hL W T => CI.out x (by omega) L hL W T)
              rw [hw] at CIt
              clear hw
              go_wp2_with fail
              with_reducible refine Calls.mono (CIt.out _ (by rfl) _ HTx.out) ?_
              rintro e w14 ⟨rfl, hb⟩
              have HB14 := Lib.hid (Below.andThen HBx.out hb)
              clear hb cL lL
              go_wp2_with fail
              go_roundw
              case rel => exact ⟨0 + 1, by omega, rfl, HB14.out⟩
              case measure => simp [intOf]
            · skip
              have CIt := Lib.hid (fun L hL W T => CI.out x (by omega) L hL W T)
              rw [hw] at CIt
              have CP := Lib.hid (fun W => plain_any x W (by omega))
              rw [(IP.out x hw).2] at CP
              clear hw
              go_wp2_with fail
              with_reducible refine Calls.mono (CIt.out _ (by rfl) _ HTx.out) ?_
              rintro e w14 ⟨rfl, hb⟩
              have HB14 := Lib.hid (Below.andThen HBx.out hb)
              clear hb cL lL
              go_wp2_with fail
              with_reducible refine Calls.mono (CP.out _) ?_
              rintro e w' ⟨rfl, rfl⟩
              go_wp2_with fail
              go_roundw
              case rel => exact ⟨0 + 1, by omega, rfl, HB14.out⟩
              case measure => simp [intOf]
          · have cL := Lx.out.cell 1
            have lL := Lx.out.lt
            simp only [List.getElem?_cons_zero, List.getElem?_cons_succ] at cL
            cases hw : isW k u
            · skip
              have CIt := Lib.hid (fun L hL W T => CI.out u (by omega) L hL W T)
              rw [hw] at CIt
              clear hw
              go_wp2_with fail
              with_reducible refine Calls.mono (CIt.out _ (by rfl) _ HTx.out) ?_
              rintro e w14 ⟨rfl, hb⟩
              have HB14 := Lib.hid (Below.andThen HBx.out hb)
              clear hb cL lL
              go_wp2_with fail
              go_roundw
              case rel => exact ⟨1 + 1, by omega, rfl, HB14.out⟩
              case measure => simp [intOf]
            · skip
              have CIt := Lib.hid (fun L hL W T => CI.out u (by omega) L hL W T)
              rw [hw] at CIt
              have CP := Lib.hid (fun W => plain_any u W (by omega))
              rw [(IP.out u hw).2] at CP
              clear hw
              go_wp2_with fail
              with_reducible refine Calls.mono (CIt.out _ (by rfl) _ HTx.out) ?_
              rintro e w14 ⟨rfl, hb⟩
              have HB14 := Lib.hid (Below.andThen HBx.out hb)
              clear hb cL lL
              go_wp2_with fail
              with_reducible refine Calls.mono (CP.out _) ?_
              rintro e w' ⟨rfl, rfl⟩
              go_wp2_with fail
              go_roundw
              case rel => exact ⟨1 + 1, by omega, rfl, HB14.out⟩
              case measure => simp [intOf]
          · go_wp2_with fail
            go_ret
            exact ⟨rfl, Below.andThen HBv.out HBx.out⟩
theorem bd_u8 {n : Int} (h : (Lit.int .u8 n).wf = true) : 0 ≤ n ∧ n ≤ 255 := by
  simpa [Lit.wf, IntKind.min, IntKind.max, IntKind.signed, IntKind.bits] using h
namespace wordLetters
set_option maxRecDepth 100000 in
theorem contract (H : Type) (enc : TypeId × Value → H) (W : World) (base : Nat) (args : Array Value) (ds gs : List (DataW H)) (before : List MemPlace)
    (hval : ∀ (j : Nat) t v, Tryd.f7.params[j]? = some t → args[j]? = some v → Value.okWide Tryd.prog W .any base t v)
    (hW : DataW.Whole enc Tryd.prog Tryd.f7.params.toList Rows.wordLettersSpec.vars false W args.toList ds gs before) (hL : laidMetH Tryd.prog Rows.wordLettersRow.laid W) (hsh : W.ShapedOpen Tryd.prog) :
    Calls Tryd.prog 7 args W fun e W' => ∃ v, e = .returned v ∧ Rows.wordLettersSpec.post enc Tryd.prog Tryd.f7 false true false false W args v W' := by
  have hW' := hW
  obtain ⟨p, q, hA0, hV, rfl, hfz, hnd⟩ := hW
  have hA : DataW.TrodAll enc Tryd.prog W 0 (fun _ => true) true Tryd.f7.params.toList args.toList ds p := hA0
  rw [Tryd.params7] at hA hval
  obtain ⟨v0, vs0, d0, ds0, p0, q0, hargs, rfl, rfl, h0, r0⟩ := trodAll_cons hA
  obtain ⟨v1, vs1, d1, ds1, p1, q1, rfl, rfl, rfl, h1, r1⟩ := trodAll_cons r0
  obtain ⟨v2, vs2, d2, ds2, p2, q2, rfl, rfl, rfl, h2, r2⟩ := trodAll_cons r1
  obtain ⟨v3, vs3, d3, ds3, p3, q3, rfl, rfl, rfl, h3, r3⟩ := trodAll_cons r2
  obtain ⟨v4, vs4, d4, ds4, p4, q4, rfl, rfl, rfl, h4, r4⟩ := trodAll_cons r3
  obtain ⟨rfl, rfl, rfl⟩ := trodAll_nil r4
  obtain rfl : args = #[v0, v1, v2, v3, v4] := by cases args; simp_all
  obtain ⟨a0, rfl, rfl, rfl, k0⟩ := open_int Tryd.underlying3 (hval 0 _ _ rfl rfl) h0
  obtain ⟨a1, rfl, rfl, rfl, k1⟩ := open_int Tryd.underlying3 (hval 1 _ _ rfl rfl) h1
  obtain ⟨a2, rfl, rfl, rfl, k2⟩ := Go.ChangeMaps.open_string Tryd.underlying9 (hval 2 _ _ rfl rfl) h2
  obtain ⟨a3, rfl, rfl, rfl, k3⟩ := open_int Tryd.underlying5 (hval 3 _ _ rfl rfl) h3
  obtain ⟨a4, rfl, rfl, rfl, k4⟩ := open_int Tryd.underlying3 (hval 4 _ _ rfl rfl) h4
  refine (wordLetters_law a0 a1 a2 a3 a4 W (wordT hL hsh) (bd_i64 k0) (bd_i64 k1) k2 (bd_u8 k3) (bd_i64 k4)).mono fun e W' ⟨he, hb⟩ => ?_
  subst he
  obtain ⟨rfl, _⟩ := trodVars_none hV
  exact ⟨_, rfl, law_post laidOut (by kernel_rfl) rfl (by kernel_rfl) Tryd.underlying4 hW' rfl hb⟩

noncomputable def laidWorld (os : Os) : World := World.laidAll Tryd.prog os Rows.wordLettersRow.laid
def args0 : Array Value := #[.int .i64 0, .int .i64 0, .string ⟨#[]⟩, .int .u8 0, .int .i64 0]
theorem laid_met (os : Os) : laidMet Tryd.prog Rows.wordLettersRow.laid ((laidWorld os).forCall (fun _ _ => 0) ⟨#[], args0, []⟩).memory :=
  laidMet_laidAll _ (by kernel_rfl) (by kernel_rfl)
theorem reads (os : Os) {H : Type} (enc : TypeId × Value → H) : ∃ places, DataW.whole enc Tryd.prog ((laidWorld os).forCall (fun _ _ => 0) ⟨#[], args0, []⟩).memory Tryd.f7.params.toList Rows.wordLettersSpec.vars false args0.toList 8 = some ([.lit (.int .i64 0), .lit (.int .i64 0), .lit (.string []), .lit (.int .u8 0), .lit (.int .i64 0)], [], places) :=
  ⟨[], by kernel_rfl⟩

set_option maxRecDepth 100000 in
theorem lifted (os : Os) (started : os.Started) (H : Type) (enc : TypeId × Value → H) (F : Stop.Interp) :
    ReturnsInHanded {} Tryd.checked os 7 .any ((OpenSpec.ofChange Rows.wordLettersSpec).preRow enc Tryd.prog Tryd.f7 Rows.wordLettersRow.domain false Rows.wordLettersRow.laid) (((OpenSpec.ofChange Rows.wordLettersSpec).at F).post enc Tryd.prog Tryd.f7 false true false false) := by
  obtain ⟨places, hx⟩ := reads os enc
  refine returnsInHanded_of_row (C := Tryd.checked) (s := OpenSpec.ofChange Rows.wordLettersSpec) own started (by kernel_rfl) Tryd.func7
    (witness_row_at (enc := enc) (C := Tryd.checked) false (laidWorld os) args0 (World.laidAll_os _ _ _) (by kernel_rfl) (by kernel_rfl) (by kernel_rfl)
      (OpenSpec.preRow_of_cond 8 hx (by kernel_rfl) (fun k hk => by cases hk) (by kernel_rfl) (laid_met os))) ?_
  intro W base args ds gs before hval hW _ _ _ hL hsh _
  exact contract H enc W base args ds gs before hval hW hL hsh

theorem said : Rows.WordLettersSaid :=
  OpenClaim.holds_of_cond 7 Tryd.f7 rfl rfl rfl rfl rfl rfl rfl ⟨rfl, rfl, rfl, rfl, rfl⟩ rfl rfl rfl rfl rfl (by kernel_rfl) Tryd.func7 (by kernel_rfl)
    (of_decide_eq_true (by kernel_rfl)) (by unfold Func.isWrapper; first | (rw [if_pos (by decide +kernel)]; kernel_rfl) | (rw [if_neg (by decide +kernel)]; exact ⟨rfl, rfl⟩))
    (fun os started H enc _ F => by rw [OpenClaim.pre_eq_preRow]; exact lifted os started H enc F)

theorem plain (f : FuncId) (fn : Func) (hf : Tryd.pinned.checked.prog.funcNamed "newswire/newswirelaw11.WordLetters" = some f) (hfn : Tryd.pinned.checked.prog.funcs[f]? = some fn) :
    false = Tryd.pinned.checked.prog.looks [] ∧ ∀ (j : Nat) t, fn.params[j]? = some t → Tryd.pinned.checked.prog.wantsStandIn t = false := by
  obtain rfl : f = 7 := Option.some.inj ((show Tryd.prog.funcNamed "newswire/newswirelaw11.WordLetters" = some 7 by kernel_rfl).symm.trans hf) |>.symm
  obtain rfl : fn = Tryd.f7 := (Option.some.inj (Tryd.func7.symm.trans hfn)).symm
  refine ⟨by kernel_rfl, fun j t ht => ?_⟩
  have all : (Tryd.f7.params.toList.all fun t => Tryd.prog.wantsStandIn t == false) = true := by kernel_rfl
  have := List.all_eq_true.1 all t (by rw [← Array.mem_def]; exact Array.mem_of_getElem? ht)
  exact (show Tryd.prog.wantsStandIn t = false by simpa using this)

/-- The statement. -/
theorem card : Rows.WordLettersCardSaid :=
  Claim7.holds_tied_plain_at .later [] _ _ _ _ said (fun _ h => by cases h) (by kernel_rfl) (fun _ h => by cases h) wordLetters_row_tie rfl ⟨rfl, rfl⟩ (by kernel_rfl) rfl plain (by kernel_rfl)
end wordLetters
end Go.Proofs.YtebdpdmkehfgfaaDoor
