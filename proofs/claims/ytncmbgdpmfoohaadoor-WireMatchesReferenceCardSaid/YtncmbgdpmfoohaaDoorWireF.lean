/- The functions that make the statements' inputs; the fixed examples. -/
import Derived.Test.YtncmbgdpmfoohaaDoorWireE
import Derived.KernelRfl
namespace Go.Proofs.YtncmbgdpmfoohaaDoor
open Go.RowKit

def pickZ (c n : Int) : Int := (if c < 0 then -(c + 1) else c) % n
theorem pick_bd (c n : Int) (h : 0 < n) : 0 ≤ pickZ c n ∧ pickZ c n < n := ⟨Int.emod_nonneg _ (by omega), Int.emod_lt_of_pos _ h⟩

set_option maxHeartbeats 400000 in
theorem pick_any (c n : Int) (w : World) (hn : 0 < n) (hc' : -9223372036854775808 ≤ c) (hc : c ≤ 9223372036854775807) :
    Calls Tryd.prog 14 #[.int .i64 c, .int .i64 n] w fun e w' => e = .returned (.int .i64 (pickZ c n)) ∧ w = w' := by
  by_cases h : c < 0
  · have h0 : 0 ≤ -(c + 1) := by omega
    have e : (-(c + 1)).tmod n = pickZ c n := by rw [Int.tmod_eq_emod_of_nonneg h0]; simp [pickZ, h]
    have E := Lib.hid e
    clear e
    go_enter Tryd.func14, Tryd.ntmps14
    go_wp2
    go_ret
    exact ⟨retv (vint (by rw [← E.out, Int.neg_tmod])), rfl⟩
  · have h0 : 0 ≤ c := by omega
    have e : c % n = pickZ c n := by simp [pickZ, h]
    have E := Lib.hid e
    clear e
    go_enter Tryd.func14, Tryd.ntmps14
    go_wp2
    go_ret
    exact ⟨retv (vint E.out), rfl⟩
theorem lit_same {f : FuncId} {args : Array Value} {w : World} {a b : Int} (h : a = b) (hc : Calls Tryd.prog f args w fun r w' => r = .returned (.int .i64 a) ∧ w = w') :
    Calls Tryd.prog f args w fun r w' => r = .returned (.int .i64 b) ∧ w = w' := by
  subst h
  exact hc

def numTab (k : Int) : Int := if k = 0 then 64 else if k = 1 then 128 else if k = 2 then 8192 else if k = 3 then 16384 else if k = 4 then 1073741824 else if k = 5 then 36028797018963968 else if k = 6 then 576460752303423488 else 2
/-- what NumberFrom returns -/
def numZ (c : Int) : Int := if 8 ≤ pickZ c 16 then -(pickZ (pickZ c 4611686018427387904 / 8) (numTab (pickZ c 8))) else pickZ (pickZ c 4611686018427387904 / 8) (numTab (pickZ c 8))
theorem numTab_bd (k : Int) : 2 ≤ numTab k ∧ numTab k ≤ 576460752303423488 := by unfold numTab; repeat' split <;> omega
theorem num_bd (c : Int) : -576460752303423488 < numZ c ∧ numZ c < 576460752303423488 := by
  have h := numTab_bd (pickZ c 8)
  have h1 := pick_bd (pickZ c 4611686018427387904 / 8) (numTab (pickZ c 8)) (by omega)
  unfold numZ
  split <;> omega

set_option maxHeartbeats 1000000 in
theorem number_any (c : Int) (w : World) (hc' : -9223372036854775808 ≤ c) (hc : c ≤ 9223372036854775807) :
    Calls Tryd.prog 11 #[.int .i64 c] w fun e w' => e = .returned (.int .i64 (numZ c)) ∧ Below w.heap.size w w' := by
  have hb := pick_bd c 8 (by omega)
  have ha := pick_bd c 4611686018427387904 (by omega)
  have ht := numTab_bd (pickZ c 8)
  have hp := pick_bd (pickZ c 4611686018427387904 / 8) (numTab (pickZ c 8)) (by omega)
  have E := Lib.hid (show numZ c = _ from rfl)
  conv at E => arg 1; rhs; unfold numZ
  have h : pickZ c 8 = 0 ∨ pickZ c 8 = 1 ∨ pickZ c 8 = 2 ∨ pickZ c 8 = 3 ∨ pickZ c 8 = 4 ∨ pickZ c 8 = 5 ∨ pickZ c 8 = 6 ∨ pickZ c 8 = 7 := by omega
  rcases h with h | h | h | h | h | h | h | h
  all_goals
    rw [h] at E hp ht
    simp only [numTab, if_true, Int.reduceEq, if_false] at E hp ht
    have H1 := Lib.hid (fun w => pick_any c 4611686018427387904 w (by omega) hc' hc)
    have H2 := Lib.hid (fun w => lit_same h (pick_any c 8 w (by omega) hc' hc))
    have H3 := Lib.hid (fun (k : Int) (hk : 0 < k) w => pick_any (pickZ c 4611686018427387904 / 8) k w hk (by omega) (by omega))
    have H4 := Lib.hid (fun w => pick_any c 16 w (by omega) hc' hc)
    generalize pickZ c 4611686018427387904 = a0 at *
    by_cases h8 : 8 ≤ pickZ c 16
    · have E' := E.out
      rw [if_pos h8] at E'
      have E2 := Lib.hid E'
      clear h hb E E' ht
      go_enter Tryd.func11, Tryd.ntmps11
      go_wp2_with fail
      refine (H1.out _).mono ?_
      rintro e w1 ⟨rfl, rfl⟩
      go_wp2_with fail
      refine (H2.out _).mono ?_
      rintro e w1 ⟨rfl, rfl⟩
      go_wp2_with fail
      refine (H3.out _ (by omega) _).mono ?_
      rintro e w1 ⟨rfl, rfl⟩
      go_wp2_with fail
      refine (H4.out _).mono ?_
      rintro e w1 ⟨rfl, rfl⟩
      go_wp2
      go_ret
      exact ⟨retv (vint E2.out.symm), by (repeat' first | exact Below.refl _ _ | assumption | (refine below_drewN ?_ _) | (refine Below.drew ?_) | (refine Below.alloc ?_ ?_ _) | (refine Below.setCell ?_ ?_ _) | (simp; done) | (simp; omega) | omega)⟩
    · have E' := E.out
      rw [if_neg h8] at E'
      have E2 := Lib.hid E'
      clear h hb E E' ht
      go_enter Tryd.func11, Tryd.ntmps11
      go_wp2_with fail
      refine (H1.out _).mono ?_
      rintro e w1 ⟨rfl, rfl⟩
      go_wp2_with fail
      refine (H2.out _).mono ?_
      rintro e w1 ⟨rfl, rfl⟩
      go_wp2_with fail
      refine (H3.out _ (by omega) _).mono ?_
      rintro e w1 ⟨rfl, rfl⟩
      go_wp2_with fail
      refine (H4.out _).mono ?_
      rintro e w1 ⟨rfl, rfl⟩
      go_wp2
      go_ret
      exact ⟨retv (vint E2.out.symm), by (repeat' first | exact Below.refl _ _ | assumption | (refine below_drewN ?_ _) | (refine Below.drew ?_) | (refine Below.alloc ?_ ?_ _) | (refine Below.setCell ?_ ?_ _) | (simp; done) | (simp; omega) | omega)⟩

/-! ### The fixed examples -/
theorem enc0 : encB 0 = [0] := encB_lt (by decide)
theorem sane1 : putV (-64) = .tuple #[.string ⟨#[127]⟩, .int .i64 0] := by
  have e : encB 127 = [127] := encB_lt (by decide)
  show Value.tuple #[.string ⟨(encB 127).toArray⟩, .int .i64 0] = _
  rw [e]
theorem sane2 : putV 64 = .tuple #[.string ⟨#[128, 1]⟩, .int .i64 0] := by
  have e : encB 128 = [128, 1] := by rw [encB_ge (by decide), encB_lt (by decide)]; rfl
  show Value.tuple #[.string ⟨(encB 128).toArray⟩, .int .i64 0] = _
  rw [e]
theorem sane3 : intV (intR [97, 172, 2, 98] 1) = .tuple #[.int .i64 150, .int .i64 3, .int .i64 0] := by kernel_rfl
theorem sane4 : intV (intR [128, 0] 0) = .tuple #[.int .i64 0, .int .i64 0, .int .i64 10] := by kernel_rfl
theorem sane5 : putSV ⟨#[97, 98]⟩ = .tuple #[.string ⟨#[4, 97, 98]⟩, .int .i64 0] := by
  have e : encB 4 = [4] := encB_lt (by decide)
  show Value.tuple #[.string ((⟨(encB 4).toArray⟩ : ByteArray) ++ ⟨#[97, 98]⟩), .int .i64 0] = _
  rw [e]
  rfl
theorem sane6 : strV (strR ⟨#[4, 97, 98, 99]⟩ 0) = .tuple #[.string ⟨#[97, 98]⟩, .int .i64 3, .int .i64 0] := by kernel_rfl
theorem sane7 : strV (strR ⟨#[4, 97]⟩ 0) = .tuple #[.string ⟨#[]⟩, .int .i64 0, .int .i64 10] := by kernel_rfl
theorem sane8 : putV 4611686018427387904 = .tuple #[.string ⟨#[]⟩, .int .i64 10] := by kernel_rfl
theorem sane9 : intV (intR [] 1) = .tuple #[.int .i64 0, .int .i64 0, .int .i64 2] := by kernel_rfl
theorem sane10 : sumN [49, 50, 51, 52, 53, 54, 55, 56, 57] = 3808858755 := by kernel_rfl

theorem lit_v {f : FuncId} {args : Array Value} {w : World} {a b : Value} (h : a = b) (hc : Calls Tryd.prog f args w fun r w' => r = .returned a ∧ Below w.heap.size w w') :
    Calls Tryd.prog f args w fun r w' => r = .returned b ∧ Below w.heap.size w w' := by
  subst h
  exact hc
theorem same_v {f : FuncId} {args : Array Value} {w : World} {a b : Value} (h : a = b) (hc : Calls Tryd.prog f args w fun r w' => r = .returned a ∧ w = w') :
    Calls Tryd.prog f args w fun r w' => r = .returned b ∧ Below w.heap.size w w' := by
  subst h
  exact hc.mono fun e w' h => ⟨h.1, by rw [← h.2]; exact Below.refl _ _⟩

set_option maxRecDepth 100000 in
set_option maxHeartbeats 2000000 in
theorem sane_any (w : World) (T : Tab w) : Calls Tryd.prog 10 #[] w fun r w' => r = .returned (.bool true) ∧ Below w.heap.size w w' := by
  have HT := Lib.hid T
  have BB := Lib.hid (Below.refl w.heap.size w)
  clear T
  go_enter Tryd.func10, Tryd.ntmps10
  go_wp2_with fail
  refine (lit_v sane1 (put_any _ _)).mono ?_
  rintro e w1 ⟨rfl, hb⟩
  have HB := Lib.hid hb
  have hW : Below w.heap.size w w1 := by (repeat' first | exact Below.refl _ _ | assumption | (refine Below.andThen ?_ HB.out) | (exact HB.out.size) | (refine below_drewN ?_ _) | (refine Below.drew ?_) | (refine Below.alloc ?_ ?_ _) | (refine Below.setCell ?_ ?_ _) | (simp; done) | (simp; omega) | omega)
  replace BB := Lib.hid (Below.andThen BB.out hW)
  replace HT := Lib.hid (HT.out.next hW)
  clear hb hW HB
  go_wp2_with fail
  refine (lit_v sane2 (put_any _ _)).mono ?_
  rintro e w2 ⟨rfl, hb⟩
  have HB := Lib.hid hb
  have hW : Below w1.heap.size w1 w2 := by (repeat' first | exact Below.refl _ _ | assumption | (refine Below.andThen ?_ HB.out) | (exact HB.out.size) | (refine below_drewN ?_ _) | (refine Below.drew ?_) | (refine Below.alloc ?_ ?_ _) | (refine Below.setCell ?_ ?_ _) | (simp; done) | (simp; omega) | omega)
  replace BB := Lib.hid (Below.andThen BB.out hW)
  replace HT := Lib.hid (HT.out.next hW)
  clear hb hW HB
  go_wp2_with fail
  refine (same_v sane3 (int_any _ _ _ (by decide) (by decide) (by decide))).mono ?_
  rintro e w3 ⟨rfl, hb⟩
  have HB := Lib.hid hb
  have hW : Below w2.heap.size w2 w3 := by (repeat' first | exact Below.refl _ _ | assumption | (refine Below.andThen ?_ HB.out) | (exact HB.out.size) | (refine below_drewN ?_ _) | (refine Below.drew ?_) | (refine Below.alloc ?_ ?_ _) | (refine Below.setCell ?_ ?_ _) | (simp; done) | (simp; omega) | omega)
  replace BB := Lib.hid (Below.andThen BB.out hW)
  replace HT := Lib.hid (HT.out.next hW)
  clear hb hW HB
  go_wp2_with fail
  refine (same_v sane4 (int_any _ _ _ (by decide) (by decide) (by decide))).mono ?_
  rintro e w4 ⟨rfl, hb⟩
  have HB := Lib.hid hb
  have hW : Below w3.heap.size w3 w4 := by (repeat' first | exact Below.refl _ _ | assumption | (refine Below.andThen ?_ HB.out) | (exact HB.out.size) | (refine below_drewN ?_ _) | (refine Below.drew ?_) | (refine Below.alloc ?_ ?_ _) | (refine Below.setCell ?_ ?_ _) | (simp; done) | (simp; omega) | omega)
  replace BB := Lib.hid (Below.andThen BB.out hW)
  replace HT := Lib.hid (HT.out.next hW)
  clear hb hW HB
  go_wp2_with fail
  refine (lit_v sane5 (putString_any _ _ (by decide))).mono ?_
  rintro e w5 ⟨rfl, hb⟩
  have HB := Lib.hid hb
  have hW : Below w4.heap.size w4 w5 := by (repeat' first | exact Below.refl _ _ | assumption | (refine Below.andThen ?_ HB.out) | (exact HB.out.size) | (refine below_drewN ?_ _) | (refine Below.drew ?_) | (refine Below.alloc ?_ ?_ _) | (refine Below.setCell ?_ ?_ _) | (simp; done) | (simp; omega) | omega)
  replace BB := Lib.hid (Below.andThen BB.out hW)
  replace HT := Lib.hid (HT.out.next hW)
  clear hb hW HB
  go_wp2_with fail
  refine (same_v sane6 (string_any _ _ _ (by decide) (by decide) (by decide))).mono ?_
  rintro e w6 ⟨rfl, hb⟩
  have HB := Lib.hid hb
  have hW : Below w5.heap.size w5 w6 := by (repeat' first | exact Below.refl _ _ | assumption | (refine Below.andThen ?_ HB.out) | (exact HB.out.size) | (refine below_drewN ?_ _) | (refine Below.drew ?_) | (refine Below.alloc ?_ ?_ _) | (refine Below.setCell ?_ ?_ _) | (simp; done) | (simp; omega) | omega)
  replace BB := Lib.hid (Below.andThen BB.out hW)
  replace HT := Lib.hid (HT.out.next hW)
  clear hb hW HB
  go_wp2_with fail
  refine (same_v sane7 (string_any _ _ _ (by decide) (by decide) (by decide))).mono ?_
  rintro e w7 ⟨rfl, hb⟩
  have HB := Lib.hid hb
  have hW : Below w6.heap.size w6 w7 := by (repeat' first | exact Below.refl _ _ | assumption | (refine Below.andThen ?_ HB.out) | (exact HB.out.size) | (refine below_drewN ?_ _) | (refine Below.drew ?_) | (refine Below.alloc ?_ ?_ _) | (refine Below.setCell ?_ ?_ _) | (simp; done) | (simp; omega) | omega)
  replace BB := Lib.hid (Below.andThen BB.out hW)
  replace HT := Lib.hid (HT.out.next hW)
  clear hb hW HB
  go_wp2_with fail
  refine (lit_v sane8 (put_any _ _)).mono ?_
  rintro e w8 ⟨rfl, hb⟩
  have HB := Lib.hid hb
  have hW : Below w7.heap.size w7 w8 := by (repeat' first | exact Below.refl _ _ | assumption | (refine Below.andThen ?_ HB.out) | (exact HB.out.size) | (refine below_drewN ?_ _) | (refine Below.drew ?_) | (refine Below.alloc ?_ ?_ _) | (refine Below.setCell ?_ ?_ _) | (simp; done) | (simp; omega) | omega)
  replace BB := Lib.hid (Below.andThen BB.out hW)
  replace HT := Lib.hid (HT.out.next hW)
  clear hb hW HB
  go_wp2_with fail
  refine (same_v sane9 (int_any _ _ _ (by decide) (by decide) (by decide))).mono ?_
  rintro e w9 ⟨rfl, hb⟩
  have HB := Lib.hid hb
  have hW : Below w8.heap.size w8 w9 := by (repeat' first | exact Below.refl _ _ | assumption | (refine Below.andThen ?_ HB.out) | (exact HB.out.size) | (refine below_drewN ?_ _) | (refine Below.drew ?_) | (refine Below.alloc ?_ ?_ _) | (refine Below.setCell ?_ ?_ _) | (simp; done) | (simp; omega) | omega)
  replace BB := Lib.hid (Below.andThen BB.out hW)
  replace HT := Lib.hid (HT.out.next hW)
  clear hb hW HB
  go_wp2_with fail
  refine (same_v (vint (by rw [show (⟨#[49, 50, 51, 52, 53, 54, 55, 56, 57]⟩ : ByteArray).data.toList = [49, 50, 51, 52, 53, 54, 55, 56, 57] from rfl, sane10])) (sum_any _ _ (by decide) HT.out)).mono ?_
  rintro e w10 ⟨rfl, hb⟩
  have HB := Lib.hid hb
  have hW : Below w9.heap.size w9 w10 := by (repeat' first | exact Below.refl _ _ | assumption | (refine Below.andThen ?_ HB.out) | (exact HB.out.size) | (refine below_drewN ?_ _) | (refine Below.drew ?_) | (refine Below.alloc ?_ ?_ _) | (refine Below.setCell ?_ ?_ _) | (simp; done) | (simp; omega) | omega)
  replace BB := Lib.hid (Below.andThen BB.out hW)
  replace HT := Lib.hid (HT.out.next hW)
  clear hb hW HB
  go_wp2
  go_ret
  exact ⟨rfl, BB.out⟩
end Go.Proofs.YtncmbgdpmfoohaaDoor
