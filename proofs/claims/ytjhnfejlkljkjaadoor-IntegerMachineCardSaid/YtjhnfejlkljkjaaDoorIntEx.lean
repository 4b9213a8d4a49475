/- The fixed examples hold. -/
import Derived.Test.YtjhnfejlkljkjaaDoorIntZC
namespace Go.Proofs.YtjhnfejlkljkjaaDoor
open Go.RowKit

theorem lit_txt {s : ByteArray} {z : Int} (h : In.num s = some z) : In.txt z = s ∧ In.Fit z := ⟨(In.num_some h).1.symm, (In.num_some h).2⟩
theorem ex_op {f : Int → Int → Int} {s t r : ByteArray} {x y z : Int} (hs : In.num s = some x) (ht : In.num t = some y) (hz : f x y = z) (hr : In.num r = some z) : In.opS f s t = (r, 0) := by
  rw [In.opS_some hs ht, hz, In.fit_pos (lit_txt hr).2, (lit_txt hr).1]
theorem ex_div {s t q r : ByteArray} {x y a b : Int} (hs : In.num s = some x) (ht : In.num t = some y) (hy : y ≠ 0) (hq : In.num q = some a) (hr : In.num r = some b) (h1 : x / y = a) (h2 : x % y = b) : In.divS s t = (q, r, 0) := by
  rw [divS_fit hs ht hy (In.num_some hs).2, h1, h2, (lit_txt hq).1, (lit_txt hr).1]
theorem ex_root {s r : ByteArray} {x : Int} {q : Nat} (hs : In.num s = some x) (hx : 0 ≤ x) (h1 : q * q ≤ x.natAbs) (h2 : x.natAbs < (q + 1) * (q + 1)) (hr : In.num r = some (q : Int)) : In.rootS s = (r, 0) := by
  rw [In.rootS_some hs hx, In.sqrtN_is h1 h2, (lit_txt hr).1]
def lit_1000 : ByteArray := ⟨#[49, 48, 48, 48]⟩
theorem lit_1000_is : (lit_1000.toList == ([49, 48, 48, 48] : List UInt8)) = true := by rw [ByteArray.toList_eq]; decide
def lit_m999 : ByteArray := ⟨#[45, 57, 57, 57]⟩
theorem lit_m999_is : (lit_m999.toList == ([45, 57, 57, 57] : List UInt8)) = true := by rw [ByteArray.toList_eq]; decide
def lit_m144 : ByteArray := ⟨#[45, 49, 52, 52]⟩
theorem lit_m144_is : (lit_m144.toList == ([45, 49, 52, 52] : List UInt8)) = true := by rw [ByteArray.toList_eq]; decide
def lit_m4 : ByteArray := ⟨#[45, 52]⟩
theorem lit_m4_is : (lit_m4.toList == ([45, 52] : List UInt8)) = true := by rw [ByteArray.toList_eq]; decide
def lit_1 : ByteArray := ⟨#[49]⟩
theorem lit_1_is : (lit_1.toList == ([49] : List UInt8)) = true := by rw [ByteArray.toList_eq]; decide
def lit_4 : ByteArray := ⟨#[52]⟩
theorem lit_4_is : (lit_4.toList == ([52] : List UInt8)) = true := by rw [ByteArray.toList_eq]; decide
def lit_6 : ByteArray := ⟨#[54]⟩
theorem lit_6_is : (lit_6.toList == ([54] : List UInt8)) = true := by rw [ByteArray.toList_eq]; decide
def lit_9 : ByteArray := ⟨#[57]⟩
theorem lit_9_is : (lit_9.toList == ([57] : List UInt8)) = true := by rw [ByteArray.toList_eq]; decide
section
variable (w : World) (T : TabI w)
include T
theorem ex_Add : Calls Tryd.prog 14 #[.string ⟨#[57, 57, 57]⟩, .string ⟨#[49]⟩] w fun e w' => e = .returned (.tuple #[.string lit_1000, .int .i64 0]) ∧ Below w.heap.size w w' := by
  have h := Add_any ⟨#[57, 57, 57]⟩ ⟨#[49]⟩ w T
  rw [ex_op (r := lit_1000) (x := 999) (y := 1) (z := 1000) (by kernel_rfl) (by kernel_rfl) rfl (by kernel_rfl)] at h
  exact h
theorem ex_Sub : Calls Tryd.prog 15 #[.string ⟨#[49]⟩, .string ⟨#[49, 48, 48, 48]⟩] w fun e w' => e = .returned (.tuple #[.string lit_m999, .int .i64 0]) ∧ Below w.heap.size w w' := by
  have h := Sub_any ⟨#[49]⟩ ⟨#[49, 48, 48, 48]⟩ w T
  rw [ex_op (r := lit_m999) (x := 1) (y := 1000) (z := -999) (by kernel_rfl) (by kernel_rfl) rfl (by kernel_rfl)] at h
  exact h
theorem ex_Mul : Calls Tryd.prog 16 #[.string ⟨#[45, 49, 50]⟩, .string ⟨#[49, 50]⟩] w fun e w' => e = .returned (.tuple #[.string lit_m144, .int .i64 0]) ∧ Below w.heap.size w w' := by
  have h := Mul_any ⟨#[45, 49, 50]⟩ ⟨#[49, 50]⟩ w T
  rw [ex_op (r := lit_m144) (x := -12) (y := 12) (z := -144) (by kernel_rfl) (by kernel_rfl) rfl (by kernel_rfl)] at h
  exact h
theorem ex_Div1 : Calls Tryd.prog 18 #[.string ⟨#[45, 55]⟩, .string ⟨#[50]⟩] w fun e w' => e = .returned (.tuple #[.string lit_m4, .string lit_1, .int .i64 0]) ∧ Below w.heap.size w w' := by
  have h := Div_any ⟨#[45, 55]⟩ ⟨#[50]⟩ w T
  rw [ex_div (q := lit_m4) (r := lit_1) (x := -7) (y := 2) (a := -4) (b := 1) (by kernel_rfl) (by kernel_rfl) (by decide) (by kernel_rfl) (by kernel_rfl) (by decide) (by decide)] at h
  exact h
theorem ex_Div2 : Calls Tryd.prog 18 #[.string ⟨#[45, 55]⟩, .string ⟨#[45, 50]⟩] w fun e w' => e = .returned (.tuple #[.string lit_4, .string lit_1, .int .i64 0]) ∧ Below w.heap.size w w' := by
  have h := Div_any ⟨#[45, 55]⟩ ⟨#[45, 50]⟩ w T
  rw [ex_div (q := lit_4) (r := lit_1) (x := -7) (y := -2) (a := 4) (b := 1) (by kernel_rfl) (by kernel_rfl) (by decide) (by kernel_rfl) (by kernel_rfl) (by decide) (by decide)] at h
  exact h
theorem ex_Gcd : Calls Tryd.prog 21 #[.string ⟨#[49, 50]⟩, .string ⟨#[45, 49, 56]⟩] w fun e w' => e = .returned (.tuple #[.string lit_6, .int .i64 0]) ∧ Below w.heap.size w w' := by
  have h := Gcd_any ⟨#[49, 50]⟩ ⟨#[45, 49, 56]⟩ w T
  rw [ex_op (r := lit_6) (x := 12) (y := -18) (z := 6) (by kernel_rfl) (by kernel_rfl) (by decide) (by kernel_rfl)] at h
  exact h
theorem ex_Root : Calls Tryd.prog 22 #[.string ⟨#[57, 57]⟩] w fun e w' => e = .returned (.tuple #[.string lit_9, .int .i64 0]) ∧ Below w.heap.size w w' := by
  have h := Root_any ⟨#[57, 57]⟩ w T
  rw [ex_root (r := lit_9) (x := 99) (q := 9) (by kernel_rfl) (by decide) (by decide) (by decide) (by kernel_rfl)] at h
  exact h
theorem ex_RootN : Calls Tryd.prog 22 #[.string ⟨#[45, 49]⟩] w fun e w' => e = .returned (.tuple #[.string ⟨#[]⟩, .int .i64 30]) ∧ Below w.heap.size w w' := by
  have h := Root_any ⟨#[45, 49]⟩ w T
  rw [In.rootS_neg (s := ⟨#[45, 49]⟩) (x := -1) (by kernel_rfl) (by decide)] at h
  exact h
theorem ex_AddN : Calls Tryd.prog 14 #[.string ⟨#[48, 48, 55]⟩, .string ⟨#[49]⟩] w fun e w' => e = .returned (.tuple #[.string ⟨#[]⟩, .int .i64 30]) ∧ Below w.heap.size w w' := by
  have h := Add_any ⟨#[48, 48, 55]⟩ ⟨#[49]⟩ w T
  rw [opS_bad (a := ⟨#[48, 48, 55]⟩) (.inl (by kernel_rfl))] at h
  exact h
end
theorem ex_V1 (w : World) : Calls Tryd.prog 19 #[.string ⟨#[45, 55]⟩] w fun e w' => e = .returned (.bool true) ∧ w = w' := by
  have h := valid_any ⟨#[45, 55]⟩ w
  rwa [show In.validL (⟨#[45, 55]⟩ : ByteArray).data.toList = true by kernel_rfl] at h
theorem ex_V2 (w : World) : Calls Tryd.prog 19 #[.string ⟨#[45, 48]⟩] w fun e w' => e = .returned (.bool false) ∧ w = w' := by
  have h := valid_any ⟨#[45, 48]⟩ w
  rwa [show In.validL (⟨#[45, 48]⟩ : ByteArray).data.toList = false by kernel_rfl] at h
theorem ex_V3 (w : World) : Calls Tryd.prog 19 #[.string ⟨#[]⟩] w fun e w' => e = .returned (.bool false) ∧ w = w' := by
  have h := valid_any ⟨#[]⟩ w
  rwa [show In.validL (⟨#[]⟩ : ByteArray).data.toList = false by kernel_rfl] at h
theorem ex_Cmp (w : World) : Calls Tryd.prog 17 #[.string ⟨#[45, 56]⟩, .string ⟨#[45, 55]⟩] w fun e w' => e = .returned (.int .i64 (-1)) ∧ Below w.heap.size w w' := by
  have h := Compare_any ⟨#[45, 56]⟩ ⟨#[45, 55]⟩ w
  rwa [In.cmpS_some (s := ⟨#[45, 56]⟩) (t := ⟨#[45, 55]⟩) (x := -8) (y := -7) (by kernel_rfl) (by kernel_rfl), show In.cmpZ (-8) (-7) = -1 by decide] at h
set_option maxRecDepth 100000 in
set_option maxHeartbeats 4000000 in
theorem sane_any (w : World) (T : TabI w) : Calls Tryd.prog 11 #[] w fun e w' => e = .returned (.bool true) ∧ Below w.heap.size w w' := by
  have HT := Lib.hid T
  have BB := Lib.hid (Below.refl w.heap.size w)
  have C1 := Lib.hid (fun W T => ex_Add W T)
  have C2 := Lib.hid (fun W T => ex_Sub W T)
  have C3 := Lib.hid (fun W T => ex_Mul W T)
  have C4 := Lib.hid (fun W T => ex_Div1 W T)
  have C5 := Lib.hid (fun W T => ex_Div2 W T)
  have C6 := Lib.hid (fun W T => ex_Gcd W T)
  have C7 := Lib.hid (fun W T => ex_Root W T)
  have C8 := Lib.hid (fun W T => ex_RootN W T)
  have C9 := Lib.hid (fun W T => ex_AddN W T)
  have CV1 := Lib.hid ex_V1
  have CV2 := Lib.hid ex_V2
  have CV3 := Lib.hid ex_V3
  have CC := Lib.hid ex_Cmp
  have f_1000 := lit_1000_is
  have f_m999 := lit_m999_is
  have f_m144 := lit_m144_is
  have f_m4 := lit_m4_is
  have f_1 := lit_1_is
  have f_4 := lit_4_is
  have f_6 := lit_6_is
  have f_9 := lit_9_is
  generalize lit_1000 = s1 at *
  generalize lit_m999 = s2 at *
  generalize lit_m144 = s3 at *
  generalize lit_m4 = s4 at *
  generalize lit_1 = s5 at *
  generalize lit_4 = s6 at *
  generalize lit_6 = s7 at *
  generalize lit_9 = s8 at *
  clear T
  go_enter Tryd.func11, Tryd.ntmps11
  go_wp2_with fail
  with_reducible refine Calls.mono (C1.out _ HT.out) ?_
  rintro e w1 ⟨rfl, hb⟩
  replace HT := Lib.hid (HT.out.next hb)
  replace BB := Lib.hid (Below.andThen BB.out hb)
  clear hb
  go_wp2_with fail
  with_reducible refine Calls.mono (C2.out _ HT.out) ?_
  rintro e w2 ⟨rfl, hb⟩
  replace HT := Lib.hid (HT.out.next hb)
  replace BB := Lib.hid (Below.andThen BB.out hb)
  clear hb
  go_wp2_with fail
  with_reducible refine Calls.mono (C3.out _ HT.out) ?_
  rintro e w3 ⟨rfl, hb⟩
  replace HT := Lib.hid (HT.out.next hb)
  replace BB := Lib.hid (Below.andThen BB.out hb)
  clear hb
  go_wp2_with fail
  with_reducible refine Calls.mono (C4.out _ HT.out) ?_
  rintro e w4 ⟨rfl, hb⟩
  replace HT := Lib.hid (HT.out.next hb)
  replace BB := Lib.hid (Below.andThen BB.out hb)
  clear hb
  go_wp2_with fail
  with_reducible refine Calls.mono (C5.out _ HT.out) ?_
  rintro e w5 ⟨rfl, hb⟩
  replace HT := Lib.hid (HT.out.next hb)
  replace BB := Lib.hid (Below.andThen BB.out hb)
  clear hb
  go_wp2_with fail
  with_reducible refine Calls.mono (C6.out _ HT.out) ?_
  rintro e w6 ⟨rfl, hb⟩
  replace HT := Lib.hid (HT.out.next hb)
  replace BB := Lib.hid (Below.andThen BB.out hb)
  clear hb
  go_wp2_with fail
  with_reducible refine Calls.mono (C7.out _ HT.out) ?_
  rintro e w7 ⟨rfl, hb⟩
  replace HT := Lib.hid (HT.out.next hb)
  replace BB := Lib.hid (Below.andThen BB.out hb)
  clear hb
  go_wp2_with fail
  with_reducible refine Calls.mono (C8.out _ HT.out) ?_
  rintro e w8 ⟨rfl, hb⟩
  replace HT := Lib.hid (HT.out.next hb)
  replace BB := Lib.hid (Below.andThen BB.out hb)
  clear hb
  go_wp2_with fail
  with_reducible refine Calls.mono (C9.out _ HT.out) ?_
  rintro e w9 ⟨rfl, hb⟩
  replace HT := Lib.hid (HT.out.next hb)
  replace BB := Lib.hid (Below.andThen BB.out hb)
  clear hb
  go_wp2_with fail
  with_reducible refine Calls.mono (CV1.out _) ?_
  rintro e w' ⟨rfl, rfl⟩
  go_wp2_with fail
  with_reducible refine Calls.mono (CV2.out _) ?_
  rintro e w' ⟨rfl, rfl⟩
  go_wp2_with fail
  with_reducible refine Calls.mono (CV3.out _) ?_
  rintro e w' ⟨rfl, rfl⟩
  go_wp2_with fail
  with_reducible refine Calls.mono (CC.out _) ?_
  rintro e w10 ⟨rfl, hb⟩
  replace HT := Lib.hid (HT.out.next hb)
  replace BB := Lib.hid (Below.andThen BB.out hb)
  clear hb
  go_wp2_with fail
  go_ret
  exact ⟨rfl, BB.out⟩
end Go.Proofs.YtjhnfejlkljkjaaDoor
