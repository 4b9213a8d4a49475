/- For every input, WireTruncated returns true and leaves its arguments as they were; the checksum's table holds what the program's text lays. -/
import Derived.Test.YtncmbgdpmfoohaaDoorWireCut
import Derived.Test.YtncmbgdpmfoohaaDoorWireFrame
namespace Go.Proofs.YtncmbgdpmfoohaaDoor
open Go.RowKit Go.ChangeShapes Go.WideShapes Go.ChangeAt

theorem bytes_ne {a b : ByteArray} (h : a ≠ b) : (a.toList == b.toList) = false := by
  rw [beq_eq_false_iff_ne, ByteArray.toList_eq, ByteArray.toList_eq]
  exact fun e => h (ByteArray.ext (Array.ext' e))
theorem same_below {f : FuncId} {args : Array Value} {w : World} {v : Value} (h : Calls Tryd.prog f args w fun r w' => r = .returned v ∧ w = w') : Calls Tryd.prog f args w fun r w' => r = .returned v ∧ Below w.heap.size w w' :=
  h.mono fun e w' h => ⟨h.1, by rw [← h.2]; exact Below.refl _ _⟩

set_option maxRecDepth 100000 in
set_option maxHeartbeats 4000000 in
theorem wireTruncated_any (c d : Int) (t : ByteArray) (k : Int) (w : World) (T : Tab w) (a0 : -9223372036854775808 ≤ c ∧ c ≤ 9223372036854775807) (a1 : -9223372036854775808 ≤ d ∧ d ≤ 9223372036854775807) (a2 : t.size ≤ maxLen) (a3 : -9223372036854775808 ≤ k ∧ k ≤ 9223372036854775807) :
    Calls Tryd.prog 7 #[.int .i64 c, .int .i64 d, .string t, .int .i64 k] w fun r w' => r = .returned (.bool true) ∧ Below w.heap.size w w' := by
  have HT := Lib.hid T
  have BB := Lib.hid (Below.refl w.heap.size w)
  have hn := num_bd c
  have hm := num_bd d
  unfold maxLen at a2
  clear T
  go_enter Tryd.func7, Tryd.ntmps7
  go_wp2_with fail
  refine (sane_any _ HT.out).mono ?_
  rintro e w1 ⟨rfl, hb⟩
  have HB := Lib.hid hb
  have hW : Below w.heap.size w w1 := by (repeat' first | exact Below.refl _ _ | assumption | (refine Below.andThen ?_ HB.out) | (exact HB.out.size) | (refine below_drewN ?_ _) | (refine Below.drew ?_) | (refine Below.alloc ?_ ?_ _) | (refine Below.setCell ?_ ?_ _) | (simp; done) | (simp; omega) | omega)
  replace BB := Lib.hid (Below.andThen BB.out hW)
  replace HT := Lib.hid (HT.out.next hW)
  clear hb hW HB
  have eP : ∀ n : Int, -576460752303423488 < n ∧ n < 576460752303423488 → putV n = .tuple #[.string (encS n), .int .i64 0] := fun n hn => by unfold putV putR maxI; rw [if_pos (by omega)]; rfl
  have P1 := Lib.hid (eP _ hn)
  have P2 := Lib.hid (eP _ hm)
  clear eP
  go_wp2_with fail
  refine (number_any _ _ a0.1 a0.2).mono ?_
  rintro e w2 ⟨rfl, hb⟩
  have HB := Lib.hid hb
  have hW : Below w1.heap.size w1 w2 := by (repeat' first | exact Below.refl _ _ | assumption | (refine Below.andThen ?_ HB.out) | (exact HB.out.size) | (refine below_drewN ?_ _) | (refine Below.drew ?_) | (refine Below.alloc ?_ ?_ _) | (refine Below.setCell ?_ ?_ _) | (simp; done) | (simp; omega) | omega)
  replace BB := Lib.hid (Below.andThen BB.out hW)
  replace HT := Lib.hid (HT.out.next hW)
  clear hb hW HB
  go_wp2_with fail
  refine (lit_v P1.out (put_any _ _)).mono ?_
  rintro e w3 ⟨rfl, hb⟩
  have HB := Lib.hid hb
  have hW : Below w2.heap.size w2 w3 := by (repeat' first | exact Below.refl _ _ | assumption | (refine Below.andThen ?_ HB.out) | (exact HB.out.size) | (refine below_drewN ?_ _) | (refine Below.drew ?_) | (refine Below.alloc ?_ ?_ _) | (refine Below.setCell ?_ ?_ _) | (simp; done) | (simp; omega) | omega)
  replace BB := Lib.hid (Below.andThen BB.out hW)
  replace HT := Lib.hid (HT.out.next hW)
  clear hb hW HB
  go_wp2_with fail
  refine (number_any _ _ a1.1 a1.2).mono ?_
  rintro e w4 ⟨rfl, hb⟩
  have HB := Lib.hid hb
  have hW : Below w3.heap.size w3 w4 := by (repeat' first | exact Below.refl _ _ | assumption | (refine Below.andThen ?_ HB.out) | (exact HB.out.size) | (refine below_drewN ?_ _) | (refine Below.drew ?_) | (refine Below.alloc ?_ ?_ _) | (refine Below.setCell ?_ ?_ _) | (simp; done) | (simp; omega) | omega)
  replace BB := Lib.hid (Below.andThen BB.out hW)
  replace HT := Lib.hid (HT.out.next hW)
  clear hb hW HB
  go_wp2_with fail
  refine (lit_v P2.out (put_any _ _)).mono ?_
  rintro e w5 ⟨rfl, hb⟩
  have HB := Lib.hid hb
  have hW : Below w4.heap.size w4 w5 := by (repeat' first | exact Below.refl _ _ | assumption | (refine Below.andThen ?_ HB.out) | (exact HB.out.size) | (refine below_drewN ?_ _) | (refine Below.drew ?_) | (refine Below.alloc ?_ ?_ _) | (refine Below.setCell ?_ ?_ _) | (simp; done) | (simp; omega) | omega)
  replace BB := Lib.hid (Below.andThen BB.out hW)
  replace HT := Lib.hid (HT.out.next hW)
  clear hb hW HB
  go_upto_region 4 with (fail)
  go_cut [14, 15] (fun v e wx => v = .string (encS (cutS t 200).size ++ cutS t 200) ∧ e = .int .i64 0 ∧ Tab wx ∧ Below w.heap.size w wx)
  case first =>
    have hz := cutS_size t 200
    have eQ : putSV (cutS t 200) = .tuple #[.string (encS (cutS t 200).size ++ cutS t 200), .int .i64 0] := by unfold putSV putSR; rw [if_neg (by omega)]
    have C := Lib.hid (fun w => lit_v eQ (putString_any (cutS t 200) w (by unfold maxLen; omega)))
    by_cases hcs : t.size ≤ 200
    · have e := cutS_small hcs
      rw [e] at C
      have he := Lib.hid e
      clear eQ e hz
      go_wp2_with fail
      refine (C.out _).mono ?_
      rintro e w6 ⟨rfl, hb⟩
      have HB := Lib.hid hb
      have hW : Below w5.heap.size w5 w6 := by (repeat' first | exact Below.refl _ _ | assumption | (refine Below.andThen ?_ HB.out) | (exact HB.out.size) | (refine below_drewN ?_ _) | (refine Below.drew ?_) | (refine Below.alloc ?_ ?_ _) | (refine Below.setCell ?_ ?_ _) | (simp; done) | (simp; omega) | omega)
      replace BB := Lib.hid (Below.andThen BB.out hW)
      replace HT := Lib.hid (HT.out.next hW)
      clear hb hW HB
      go_wp2_with fail
      go_meet
      exact ⟨by rw [he.out], rfl, HT.out, BB.out⟩
    · have e := cutS_big hcs
      have hmin := Lib.hid (show min 200 t.size = (t.extract 0 200).size by rw [ByteArray.size_extract]; omega)
      rw [e] at C
      have he := Lib.hid e
      clear eQ e hz
      go_wp2_with fail
      refine (C.out _).mono ?_
      rintro e w6 ⟨rfl, hb⟩
      have HB := Lib.hid hb
      have hW : Below w5.heap.size w5 w6 := by (repeat' first | exact Below.refl _ _ | assumption | (refine Below.andThen ?_ HB.out) | (exact HB.out.size) | (refine below_drewN ?_ _) | (refine Below.drew ?_) | (refine Below.alloc ?_ ?_ _) | (refine Below.setCell ?_ ?_ _) | (simp; done) | (simp; omega) | omega)
      replace BB := Lib.hid (Below.andThen BB.out hW)
      replace HT := Lib.hid (HT.out.next hW)
      clear hb hW HB
      go_wp2_with fail
      go_meet
      exact ⟨by rw [he.out, hmin.out], rfl, HT.out, BB.out⟩
  clear HT BB
  obtain ⟨rfl, rfl, HT', BB'⟩ := hcut
  rename World => w6
  have HT := Lib.hid HT'
  have BB := Lib.hid BB'
  clear HT' BB'
  have hz := cutS_size t 200
  generalize cutS t 200 = t' at *
  have h1 : -maxI ≤ numZ c ∧ numZ c ≤ maxI := by unfold maxI; omega
  have h2 : -maxI ≤ numZ d ∧ numZ d ≤ maxI := by unfold maxI; omega
  have sA := encS_le h1.1 h1.2
  have pA := encS_pos (numZ c)
  have sB := encS_le h2.1 h2.2
  have sS : (encS t'.size ++ t').size ≤ 209 := by
    have := encS_size t'.size (by omega)
    rw [ByteArray.size_append]; omega
  have pS : 0 < (encS t'.size ++ t').size := by
    have := encS_pos (t'.size : Int)
    rw [ByteArray.size_append]; omega
  have qA := pick_bd k (encS (numZ c)).size (by omega)
  have qS := pick_bd k (encS t'.size ++ t').size (by omega)
  obtain ⟨ka, hka⟩ := Int.eq_ofNat_of_zero_le qA.1
  obtain ⟨ks, hks⟩ := Int.eq_ofNat_of_zero_le qS.1
  have cA : intV (intR ((encS (numZ c)).extract 0 ka).data.toList 0) = .tuple #[.int .i64 0, .int .i64 0, .int .i64 10] := by rw [cut_int (by omega)]; rfl
  have cS : strV (strR ((encS t'.size ++ t').extract 0 ks) 0) = .tuple #[.string ⟨#[]⟩, .int .i64 0, .int .i64 10] := by rw [cut_string (by omega) (by omega)]; rfl
  have KA := Lib.hid (fun w => lit_same hka (pick_any k (encS (numZ c)).size w (by omega) a3.1 a3.2))
  have KS := Lib.hid (fun w => lit_same hks (pick_any k (encS t'.size ++ t').size w (by omega) a3.1 a3.2))
  have key : (numZ c = numZ d) ∨ (numZ c ≠ numZ d ∧ (encS (numZ d)).size < (encS (numZ c)).size) ∨ (numZ c ≠ numZ d ∧ (encS (numZ c)).size ≤ (encS (numZ d)).size ∧ (encS (numZ d)).extract 0 (encS (numZ c)).size ≠ encS (numZ c)) := by
    by_cases e : numZ c = numZ d
    · exact .inl e
    · by_cases l : (encS (numZ c)).size ≤ (encS (numZ d)).size
      · exact .inr (.inr ⟨e, l, fun h => e (prefix_enc h1.1 h1.2 h2.1 h2.2 h)⟩)
      · exact .inr (.inl ⟨e, by omega⟩)
  have KEY := Lib.hid key
  have CA := Lib.hid cA
  have CS := Lib.hid cS
  have lA : ka ≤ (encS (numZ c)).size := by omega
  have lS : ks ≤ (encS t'.size ++ t').size := by omega
  have NC := Lib.hid (fun w => number_any c w a0.1 a0.2)
  have ND := Lib.hid (fun w => number_any d w a1.1 a1.2)
  clear key cA cS hka hks qA qS h1 h2 P1 P2 a0 a1 a3
  generalize numZ c = m at *
  generalize numZ d = n at *
  generalize encS t'.size ++ t' = S at *
  have zA : (((encS m).size : Int) == 0) = false := by simp; intro h; rw [h] at pA; simp at pA
  have zS : ((S.size : Int) == 0) = false := by simp; intro h; rw [h] at pS; simp at pS
  go_wp2_with fail
  refine (same_below (KA.out _)).mono ?_
  rintro e w7 ⟨rfl, hb⟩
  have HB := Lib.hid hb
  have hW : Below w6.heap.size w6 w7 := by (repeat' first | exact Below.refl _ _ | assumption | (refine Below.andThen ?_ HB.out) | (exact HB.out.size) | (refine below_drewN ?_ _) | (refine Below.drew ?_) | (refine Below.alloc ?_ ?_ _) | (refine Below.setCell ?_ ?_ _) | (simp; done) | (simp; omega) | omega)
  replace BB := Lib.hid (Below.andThen BB.out hW)
  replace HT := Lib.hid (HT.out.next hW)
  clear hb hW HB
  go_wp2_with fail
  refine (same_v CA.out (int_any _ _ _ (by unfold maxLen; rw [ByteArray.size_extract]; omega) (by decide) (by decide))).mono ?_
  rintro e w8 ⟨rfl, hb⟩
  have HB := Lib.hid hb
  have hW : Below w7.heap.size w7 w8 := by (repeat' first | exact Below.refl _ _ | assumption | (refine Below.andThen ?_ HB.out) | (exact HB.out.size) | (refine below_drewN ?_ _) | (refine Below.drew ?_) | (refine Below.alloc ?_ ?_ _) | (refine Below.setCell ?_ ?_ _) | (simp; done) | (simp; omega) | omega)
  replace BB := Lib.hid (Below.andThen BB.out hW)
  replace HT := Lib.hid (HT.out.next hW)
  clear hb hW HB
  go_wp2_with fail
  refine (same_below (KS.out _)).mono ?_
  rintro e w9 ⟨rfl, hb⟩
  have HB := Lib.hid hb
  have hW : Below w8.heap.size w8 w9 := by (repeat' first | exact Below.refl _ _ | assumption | (refine Below.andThen ?_ HB.out) | (exact HB.out.size) | (refine below_drewN ?_ _) | (refine Below.drew ?_) | (refine Below.alloc ?_ ?_ _) | (refine Below.setCell ?_ ?_ _) | (simp; done) | (simp; omega) | omega)
  replace BB := Lib.hid (Below.andThen BB.out hW)
  replace HT := Lib.hid (HT.out.next hW)
  clear hb hW HB
  go_wp2_with fail
  refine (same_v CS.out (string_any _ _ _ (by unfold maxLen; rw [ByteArray.size_extract]; omega) (by decide) (by decide))).mono ?_
  rintro e w10 ⟨rfl, hb⟩
  have HB := Lib.hid hb
  have hW : Below w9.heap.size w9 w10 := by (repeat' first | exact Below.refl _ _ | assumption | (refine Below.andThen ?_ HB.out) | (exact HB.out.size) | (refine below_drewN ?_ _) | (refine Below.drew ?_) | (refine Below.alloc ?_ ?_ _) | (refine Below.setCell ?_ ?_ _) | (simp; done) | (simp; omega) | omega)
  replace BB := Lib.hid (Below.andThen BB.out hW)
  replace HT := Lib.hid (HT.out.next hW)
  clear hb hW HB
  rcases KEY.out with rfl | ⟨e, l⟩ | ⟨e, l, x⟩
  · clear KEY
    go_wp2_with fail
    refine (NC.out _).mono ?_
    rintro e w11 ⟨rfl, hb⟩
    have HB := Lib.hid hb
    have hW : Below w10.heap.size w10 w11 := by (repeat' first | exact Below.refl _ _ | assumption | (refine Below.andThen ?_ HB.out) | (exact HB.out.size) | (refine below_drewN ?_ _) | (refine Below.drew ?_) | (refine Below.alloc ?_ ?_ _) | (refine Below.setCell ?_ ?_ _) | (simp; done) | (simp; omega) | omega)
    replace BB := Lib.hid (Below.andThen BB.out hW)
    replace HT := Lib.hid (HT.out.next hW)
    clear hb hW HB
    go_wp2_with fail
    refine (ND.out _).mono ?_
    rintro e w12 ⟨rfl, hb⟩
    have HB := Lib.hid hb
    have hW : Below w11.heap.size w11 w12 := by (repeat' first | exact Below.refl _ _ | assumption | (refine Below.andThen ?_ HB.out) | (exact HB.out.size) | (refine below_drewN ?_ _) | (refine Below.drew ?_) | (refine Below.alloc ?_ ?_ _) | (refine Below.setCell ?_ ?_ _) | (simp; done) | (simp; omega) | omega)
    replace BB := Lib.hid (Below.andThen BB.out hW)
    replace HT := Lib.hid (HT.out.next hW)
    clear hb hW HB
    go_wp2
    go_ret
    exact ⟨rfl, BB.out⟩
  · clear KEY
    go_wp2_with fail
    refine (NC.out _).mono ?_
    rintro e w11 ⟨rfl, hb⟩
    have HB := Lib.hid hb
    have hW : Below w10.heap.size w10 w11 := by (repeat' first | exact Below.refl _ _ | assumption | (refine Below.andThen ?_ HB.out) | (exact HB.out.size) | (refine below_drewN ?_ _) | (refine Below.drew ?_) | (refine Below.alloc ?_ ?_ _) | (refine Below.setCell ?_ ?_ _) | (simp; done) | (simp; omega) | omega)
    replace BB := Lib.hid (Below.andThen BB.out hW)
    replace HT := Lib.hid (HT.out.next hW)
    clear hb hW HB
    go_wp2_with fail
    refine (ND.out _).mono ?_
    rintro e w12 ⟨rfl, hb⟩
    have HB := Lib.hid hb
    have hW : Below w11.heap.size w11 w12 := by (repeat' first | exact Below.refl _ _ | assumption | (refine Below.andThen ?_ HB.out) | (exact HB.out.size) | (refine below_drewN ?_ _) | (refine Below.drew ?_) | (refine Below.alloc ?_ ?_ _) | (refine Below.setCell ?_ ?_ _) | (simp; done) | (simp; omega) | omega)
    replace BB := Lib.hid (Below.andThen BB.out hW)
    replace HT := Lib.hid (HT.out.next hW)
    clear hb hW HB
    go_wp2
    go_ret
    exact ⟨retv (vbool (by simp [e])), BB.out⟩
  · clear KEY
    have hx := Lib.hid (bytes_ne x)
    go_wp2_with fail
    refine (NC.out _).mono ?_
    rintro e w11 ⟨rfl, hb⟩
    have HB := Lib.hid hb
    have hW : Below w10.heap.size w10 w11 := by (repeat' first | exact Below.refl _ _ | assumption | (refine Below.andThen ?_ HB.out) | (exact HB.out.size) | (refine below_drewN ?_ _) | (refine Below.drew ?_) | (refine Below.alloc ?_ ?_ _) | (refine Below.setCell ?_ ?_ _) | (simp; done) | (simp; omega) | omega)
    replace BB := Lib.hid (Below.andThen BB.out hW)
    replace HT := Lib.hid (HT.out.next hW)
    clear hb hW HB
    go_wp2_with fail
    refine (ND.out _).mono ?_
    rintro e w12 ⟨rfl, hb⟩
    have HB := Lib.hid hb
    have hW : Below w11.heap.size w11 w12 := by (repeat' first | exact Below.refl _ _ | assumption | (refine Below.andThen ?_ HB.out) | (exact HB.out.size) | (refine below_drewN ?_ _) | (refine Below.drew ?_) | (refine Below.alloc ?_ ?_ _) | (refine Below.setCell ?_ ?_ _) | (simp; done) | (simp; omega) | omega)
    replace BB := Lib.hid (Below.andThen BB.out hW)
    replace HT := Lib.hid (HT.out.next hW)
    clear hb hW HB
    go_wp2
    go_ret
    exact ⟨retv (vbool (by rw [hx.out]; simp [e])), BB.out⟩

namespace wireTruncated
set_option maxRecDepth 100000 in
theorem contract (H : Type) (enc : TypeId × Value → H) (W : World) (base : Nat) (args : Array Value) (ds gs : List (DataW H)) (before : List MemPlace)
    (hval : ∀ (j : Nat) t v, Tryd.f7.params[j]? = some t → args[j]? = some v → Value.okWide Tryd.prog W .any base t v)
    (hW : DataW.Whole enc Tryd.prog Tryd.f7.params.toList Rows.wireTruncatedSpec.vars false W args.toList ds gs before) (hL : laidMetH Tryd.prog Rows.wireTruncatedRow.laid W) :
    Calls Tryd.prog 7 args W fun e W' => ∃ v, e = .returned v ∧ Rows.wireTruncatedSpec.post enc Tryd.prog Tryd.f7 false true false false W args v W' := by
  have hW' := hW
  obtain ⟨p, q, hA0, hV, rfl, hfz, hnd⟩ := hW
  have hA : DataW.TrodAll enc Tryd.prog W 0 (fun _ => true) true Tryd.f7.params.toList args.toList ds p := hA0
  rw [Tryd.params7] at hA hval
  obtain ⟨v0, vs0, d0, ds0, p0, q0, hargs, rfl, rfl, h0, r0⟩ := trodAll_cons hA
  obtain ⟨v1, vs1, d1, ds1, p1, q1, rfl, rfl, rfl, h1, r1⟩ := trodAll_cons r0
  obtain ⟨v2, vs2, d2, ds2, p2, q2, rfl, rfl, rfl, h2, r2⟩ := trodAll_cons r1
  obtain ⟨v3, vs3, d3, ds3, p3, q3, rfl, rfl, rfl, h3, r3⟩ := trodAll_cons r2
  obtain ⟨rfl, rfl, rfl⟩ := trodAll_nil r3
  obtain rfl : args = #[v0, v1, v2, v3] := by cases args; simp_all
  obtain ⟨a0, rfl, rfl, rfl, k0⟩ := open_int Tryd.underlying3 (hval 0 _ _ rfl rfl) h0
  obtain ⟨a1, rfl, rfl, rfl, k1⟩ := open_int Tryd.underlying3 (hval 1 _ _ rfl rfl) h1
  obtain ⟨a2, rfl, rfl, rfl, k2⟩ := Go.ChangeMaps.open_string Tryd.underlying9 (hval 2 _ _ rfl rfl) h2
  obtain ⟨a3, rfl, rfl, rfl, k3⟩ := open_int Tryd.underlying3 (hval 3 _ _ rfl rfl) h3
  refine (wireTruncated_any a0 a1 a2 a3 W (tab hL) (bd_i64 k0) (bd_i64 k1) k2 (bd_i64 k3)).mono fun e W' ⟨he, hb⟩ => ?_
  subst he
  obtain ⟨rfl, _⟩ := trodVars_none hV
  exact ⟨_, rfl, law_post laidOut (by kernel_rfl) rfl (by kernel_rfl) Tryd.underlying4 hW' rfl hb⟩

def args0 : Array Value := #[.int .i64 0, .int .i64 0, .string ⟨#[]⟩, .int .i64 0]
theorem laid_met (os : Os) : laidMet Tryd.prog Rows.wireTruncatedRow.laid ((laidWorld os).forCall (fun _ _ => 0) ⟨#[], args0, []⟩).memory :=
  laidMet_of_run' 8 (by kernel_rfl) (by kernel_rfl)
theorem reads (os : Os) {H : Type} (enc : TypeId × Value → H) : ∃ places, DataW.whole enc Tryd.prog ((laidWorld os).forCall (fun _ _ => 0) ⟨#[], args0, []⟩).memory Tryd.f7.params.toList Rows.wireTruncatedSpec.vars false args0.toList 8 = some ([.lit (.int .i64 0), .lit (.int .i64 0), .lit (.string []), .lit (.int .i64 0)], [], places) :=
  ⟨[], by kernel_rfl⟩

set_option maxRecDepth 100000 in
theorem lifted (os : Os) (started : os.Started) (H : Type) (enc : TypeId × Value → H) (F : Stop.Interp) :
    ReturnsInHanded {} Tryd.checked os 7 .any ((OpenSpec.ofChange Rows.wireTruncatedSpec).preRow enc Tryd.prog Tryd.f7 Rows.wireTruncatedRow.domain false Rows.wireTruncatedRow.laid) (((OpenSpec.ofChange Rows.wireTruncatedSpec).at F).post enc Tryd.prog Tryd.f7 false true false false) := by
  obtain ⟨places, hx⟩ := reads os enc
  refine returnsInHanded_of_row (C := Tryd.checked) (s := OpenSpec.ofChange Rows.wireTruncatedSpec) own started (by kernel_rfl) Tryd.func7
    (witness_row_at (enc := enc) (C := Tryd.checked) false (laidWorld os) args0 rfl (by kernel_rfl) (by kernel_rfl) (by kernel_rfl)
      (OpenSpec.preRow_of_cond 8 hx (by kernel_rfl) (fun k hk => by cases hk) (by kernel_rfl) (laid_met os))) ?_
  intro W base args ds gs before hval hW _ _ _ hL _ _
  exact contract H enc W base args ds gs before hval hW hL

theorem said : Rows.WireTruncatedSaid :=
  OpenClaim.holds_of_cond 7 Tryd.f7 rfl rfl rfl rfl rfl rfl rfl ⟨rfl, rfl, rfl, rfl, rfl⟩ rfl rfl rfl rfl rfl (by kernel_rfl) Tryd.func7 (by kernel_rfl)
    (of_decide_eq_true (by kernel_rfl)) (by unfold Func.isWrapper; first | (rw [if_pos (by decide +kernel)]; kernel_rfl) | (rw [if_neg (by decide +kernel)]; exact ⟨rfl, rfl⟩))
    (fun os started H enc _ F => by rw [OpenClaim.pre_eq_preRow]; exact lifted os started H enc F)

theorem plain (f : FuncId) (fn : Func) (hf : Tryd.pinned.checked.prog.funcNamed "newswire/newswirelaw01.WireTruncated" = some f) (hfn : Tryd.pinned.checked.prog.funcs[f]? = some fn) :
    false = Tryd.pinned.checked.prog.looks [] ∧ ∀ (j : Nat) t, fn.params[j]? = some t → Tryd.pinned.checked.prog.wantsStandIn t = false := by
  obtain rfl : f = 7 := Option.some.inj ((show Tryd.prog.funcNamed "newswire/newswirelaw01.WireTruncated" = some 7 by kernel_rfl).symm.trans hf) |>.symm
  obtain rfl : fn = Tryd.f7 := (Option.some.inj (Tryd.func7.symm.trans hfn)).symm
  refine ⟨by kernel_rfl, fun j t ht => ?_⟩
  have all : (Tryd.f7.params.toList.all fun t => Tryd.prog.wantsStandIn t == false) = true := by kernel_rfl
  have := List.all_eq_true.1 all t (by rw [← Array.mem_def]; exact Array.mem_of_getElem? ht)
  exact (show Tryd.prog.wantsStandIn t = false by simpa using this)

/-- The statement. -/
theorem card : Rows.WireTruncatedCardSaid :=
  Claim7.holds_tied_plain_at .later [] _ _ _ _ said (fun _ h => by cases h) (by kernel_rfl) (fun _ h => by cases h) wireTruncated_row_tie rfl ⟨rfl, rfl⟩ (by kernel_rfl) rfl plain (by kernel_rfl)
end wireTruncated
end Go.Proofs.YtncmbgdpmfoohaaDoor
