/- The fixed examples hold. -/
import Derived.Test.YtojfblkmhdgjeaaDoorDigT
namespace Go.Proofs.YtojfblkmhdgjeaaDoor
open Go.RowKit Go.Shelf

section
variable (b : Nat) (w : World) (T : Tab w) (hS : StrSl w (some ⟨b, 0, none⟩) abcL)
theorem small_abc : ∀ x ∈ abcL, x.size ≤ 2 ^ 38 := by decide
include T hS in
theorem ex_Proof : Calls Tryd.prog 22 #[.slice (some ⟨b, 0, none⟩) 3 3, .int .i64 2] w fun e w' => ∃ o', e = .returned (.tuple #[.slice o' 1 1, .int .i64 0]) ∧ StrSl w' o' (proofS abcL 2) ∧ Below w.heap.size w w' := by
  have h := Proof_any abcL (some ⟨b, 0, none⟩) 3 2 w T hS (by decide) (by decide) (by decide) small_abc (by decide)
  rw [exP_len] at h
  exact h
include T hS in
theorem ex_Extension : Calls Tryd.prog 24 #[.slice (some ⟨b, 0, none⟩) 3 3, .int .i64 1] w fun e w' => ∃ o', e = .returned (.tuple #[.slice o' 2 2, .int .i64 0]) ∧ StrSl w' o' (extS abcL 1) ∧ Below w.heap.size w w' := by
  have h := Extension_in abcL (some ⟨b, 0, none⟩) 3 1 w T hS (by decide) (by decide) (by decide) small_abc (by decide)
  rw [exX_len] at h
  exact h
theorem ex_Proof3 : Calls Tryd.prog 22 #[.slice (some ⟨b, 0, none⟩) 3 3, .int .i64 3] w fun e w' => e = .returned (.tuple #[.slice none 0 0, .int .i64 2]) ∧ w = w' :=
  Proof_out _ 3 3 3 w (.inr (by decide))
include T hS in
theorem ex_Root3 : Calls Tryd.prog 27 #[.slice (some ⟨b, 0, none⟩) 3 3] w fun e w' => e = .returned (.string (rootS abcL)) ∧ Below w.heap.size w w' :=
  Root_any 3 abcL _ 3 w rfl T hS (by decide) (by decide) small_abc
theorem take_sl {w : World} {o : Option Addr} {xs : List ByteArray} (k : Nat) (h : StrSl w o xs) : StrSl w o (xs.take k) := by
  rcases h with rfl | ⟨b, off, rfl, hl, hc⟩
  · exact .inl (by simp)
  · exact .inr ⟨b, off, rfl, hl, fun j x hx => hc j x (by rw [List.getElem?_take] at hx; split at hx <;> simp_all)⟩
include T hS in
theorem ex_Root1 : Calls Tryd.prog 27 #[.slice (some ⟨b, 0, none⟩) 1 3] w fun e w' => e = .returned (.string (rootS (abcL.take 1))) ∧ Below w.heap.size w w' :=
  Root_any 1 (abcL.take 1) _ 3 w rfl T (take_sl 1 hS) (by decide) (by decide) (fun x h => small_abc x (List.mem_of_mem_take h))
include T hS in
theorem ex_Root2 : Calls Tryd.prog 27 #[.slice (some ⟨b, 0, none⟩) 2 3] w fun e w' => e = .returned (.string (rootS (abcL.take 2))) ∧ Below w.heap.size w w' :=
  Root_any 2 (abcL.take 2) _ 3 w rfl T (take_sl 2 hS) (by decide) (by decide) (fun x h => small_abc x (List.mem_of_mem_take h))
end
section
variable (o : Option Addr) (w : World) (T : Tab w)
include T in
theorem ex_VerifyC (hP : StrSl w o (proofS abcL 2)) : Calls Tryd.prog 29 #[.string (rootS abcL), .int .i64 3, .int .i64 2, .string sC, .slice o 1 1] w fun e w' => e = .returned (.bool true) ∧ Below w.heap.size w w' := by
  have h := Verify_all (rootS abcL) sC 3 2 o 1 (proofS abcL 2) w T (by decide) hP (by rw [exP_len]; decide) (by decide)
  rw [ex_one, exP_len] at h
  exact h
include T in
theorem ex_VerifyD (hP : StrSl w o (proofS abcL 2)) : Calls Tryd.prog 29 #[.string (rootS abcL), .int .i64 3, .int .i64 2, .string sD, .slice o 1 1] w fun e w' => e = .returned (.bool false) ∧ Below w.heap.size w w' := by
  have h := Verify_all (rootS abcL) sD 3 2 o 1 (proofS abcL 2) w T (by decide) hP (by rw [exP_len]; decide) (by decide)
  rw [ex_two, exP_len] at h
  exact h
include T in
theorem ex_Ver1 (hP : StrSl w o (extS abcL 1)) : Calls Tryd.prog 31 #[.string (rootS (abcL.take 1)), .int .i64 1, .string (rootS abcL), .int .i64 3, .slice o 2 2] w fun e w' => e = .returned (.bool true) ∧ Below w.heap.size w w' := by
  have h := VerExt_all (rootS (abcL.take 1)) (rootS abcL) 1 3 o 2 (extS abcL 1) w T (by decide) hP (by rw [exX_len]; decide) (by rw [exX_len]; decide)
  rw [ex_three, exX_len] at h
  exact h
include T in
theorem ex_Ver2 (hP : StrSl w o (extS abcL 1)) : Calls Tryd.prog 31 #[.string (rootS (abcL.take 2)), .int .i64 1, .string (rootS abcL), .int .i64 3, .slice o 2 2] w fun e w' => e = .returned (.bool false) ∧ Below w.heap.size w w' := by
  have h := VerExt_all (rootS (abcL.take 2)) (rootS abcL) 1 3 o 2 (extS abcL 1) w T (by decide) hP (by rw [exX_len]; decide) (by rw [exX_len]; decide)
  rw [ex_four, exX_len] at h
  exact h
include T in
theorem ex_SumE : Calls Tryd.prog 13 #[.string ⟨#[]⟩] w fun e w' => e = .returned (.string (sumS ⟨#[]⟩)) ∧ Below w.heap.size w w' := Sum_any _ w T (by decide)
include T in
theorem ex_SumA : Calls Tryd.prog 13 #[.string ⟨#[97, 98, 99]⟩] w fun e w' => e = .returned (.string (sumS ⟨#[97, 98, 99]⟩)) ∧ Below w.heap.size w w' := Sum_any _ w T (by decide)
theorem ex_hexE : Calls Tryd.prog 39 #[.string (sumS ⟨#[]⟩)] w fun e w' => e = .returned (.string emptyHex) ∧ Below w.heap.size w w' := by
  have h := hex_any (sumS ⟨#[]⟩) w (by rw [sumS_size]; decide)
  rw [hex_empty] at h
  exact h
theorem ex_hexA : Calls Tryd.prog 39 #[.string (sumS ⟨#[97, 98, 99]⟩)] w fun e w' => e = .returned (.string abcHex) ∧ Below w.heap.size w w' := by
  have h := hex_any (sumS ⟨#[97, 98, 99]⟩) w (by rw [sumS_size]; decide)
  rw [hex_abc] at h
  exact h
end

theorem emptyHex_is : (emptyHex.toList == ([101, 51, 98, 48, 99, 52, 52, 50, 57, 56, 102, 99, 49, 99, 49, 52, 57, 97, 102, 98, 102, 52, 99, 56, 57, 57, 54, 102, 98, 57, 50, 52, 50, 55, 97, 101, 52, 49, 101, 52, 54, 52, 57, 98, 57, 51, 52, 99, 97, 52, 57, 53, 57, 57, 49, 98, 55, 56, 53, 50, 98, 56, 53, 53] : List UInt8)) = true := by rw [ByteArray.toList_eq]; decide
theorem abcHex_is : (abcHex.toList == ([98, 97, 55, 56, 49, 54, 98, 102, 56, 102, 48, 49, 99, 102, 101, 97, 52, 49, 52, 49, 52, 48, 100, 101, 53, 100, 97, 101, 50, 50, 50, 51, 98, 48, 48, 51, 54, 49, 97, 51, 57, 54, 49, 55, 55, 97, 57, 99, 98, 52, 49, 48, 102, 102, 54, 49, 102, 50, 48, 48, 49, 53, 97, 100] : List UInt8)) = true := by rw [ByteArray.toList_eq]; decide
set_option maxRecDepth 100000 in
set_option maxHeartbeats 2000000 in
theorem sane_any (w : World) (T : Tab w) : Calls Tryd.prog 12 #[] w fun e w' => e = .returned (.bool true) ∧ Below w.heap.size w w' := by
  have HT0 := Lib.hid T
  have C1 := Lib.hid @ex_Proof
  have C2 := Lib.hid @ex_Extension
  have C3 := Lib.hid @ex_Proof3
  have C4 := Lib.hid @ex_Root3
  have C5 := Lib.hid @ex_SumE
  have C6 := Lib.hid @ex_hexE
  have C7 := Lib.hid @ex_SumA
  have C8 := Lib.hid @ex_hexA
  have C9 := Lib.hid @ex_VerifyC
  have C10 := Lib.hid @ex_VerifyD
  have C11 := Lib.hid @ex_Root1
  have C12 := Lib.hid @ex_Ver1
  have C13 := Lib.hid @ex_Root2
  have C14 := Lib.hid @ex_Ver2
  clear T
  have f1 := emptyHex_is
  have f2 := abcHex_is
  generalize sumS ⟨#[]⟩ = s1 at *
  generalize sumS ⟨#[97, 98, 99]⟩ = s2 at *
  generalize rootS (abcL.take 1) = ra at *
  generalize rootS (abcL.take 2) = rb at *
  generalize rootS abcL = rc at *
  go_enter Tryd.func12, Tryd.ntmps12
  go_upto_region 2 with (fail)
  obtain ⟨b, hb⟩ : ∃ b, b = w.heap.size := ⟨_, rfl⟩
  refine wp_named fun W hw => ?_
  have K0 : StrSl W (some ⟨b, 0, none⟩) abcL ∧ Tab W ∧ Below w.heap.size w W := by
    rw [hw, hb]
    exact ⟨.inr ⟨_, 0, rfl, by simp, (Row.new _ _ _).str (xs := abcL)⟩, HT0.out.next ((Below.refl _ w).alloc (Nat.le_refl _) _), (Below.refl _ w).alloc (Nat.le_refl _) _⟩
  have BB := Lib.hid K0.2.2
  have HT := Lib.hid K0.2.1
  have HL := Lib.hid K0.1
  rw [← hb]
  clear hw K0 hb HT0
  go_wp2_with fail
  with_reducible refine Calls.mono (C1.out _ _ HT.out HL.out) ?_
  rintro e w2 ⟨po, rfl, hP, hb⟩
  replace HT := Lib.hid (HT.out.next hb)
  replace HL := Lib.hid (HL.out.next hb)
  replace BB := Lib.hid (Below.andThen BB.out hb)
  have HP := Lib.hid hP; clear hP
  clear hb
  go_wp2_with fail
  with_reducible refine Calls.mono (C2.out _ _ HT.out HL.out) ?_
  rintro e w3 ⟨xo, rfl, hX, hb⟩
  replace HT := Lib.hid (HT.out.next hb)
  replace HL := Lib.hid (HL.out.next hb)
  replace HP := Lib.hid (HP.out.next hb)
  replace BB := Lib.hid (Below.andThen BB.out hb)
  have HX := Lib.hid hX; clear hX
  clear hb
  go_wp2_with fail
  with_reducible refine Calls.mono (C3.out _ _) ?_
  rintro e w4 ⟨rfl, rfl⟩
  go_wp2_with fail
  with_reducible refine Calls.mono (C4.out _ _ HT.out HL.out) ?_
  rintro e w5 ⟨rfl, hb⟩
  replace HT := Lib.hid (HT.out.next hb)
  replace HL := Lib.hid (HL.out.next hb)
  replace HP := Lib.hid (HP.out.next hb)
  replace HX := Lib.hid (HX.out.next hb)
  replace BB := Lib.hid (Below.andThen BB.out hb)
  clear hb
  go_wp2_with fail
  with_reducible refine Calls.mono (C5.out _ HT.out) ?_
  rintro e w6 ⟨rfl, hb⟩
  replace HT := Lib.hid (HT.out.next hb)
  replace HL := Lib.hid (HL.out.next hb)
  replace HP := Lib.hid (HP.out.next hb)
  replace HX := Lib.hid (HX.out.next hb)
  replace BB := Lib.hid (Below.andThen BB.out hb)
  clear hb
  go_wp2_with fail
  with_reducible refine Calls.mono (C6.out _) ?_
  rintro e w7 ⟨rfl, hb⟩
  replace HT := Lib.hid (HT.out.next hb)
  replace HL := Lib.hid (HL.out.next hb)
  replace HP := Lib.hid (HP.out.next hb)
  replace HX := Lib.hid (HX.out.next hb)
  replace BB := Lib.hid (Below.andThen BB.out hb)
  clear hb
  go_wp2_with fail
  with_reducible refine Calls.mono (C7.out _ HT.out) ?_
  rintro e w8 ⟨rfl, hb⟩
  replace HT := Lib.hid (HT.out.next hb)
  replace HL := Lib.hid (HL.out.next hb)
  replace HP := Lib.hid (HP.out.next hb)
  replace HX := Lib.hid (HX.out.next hb)
  replace BB := Lib.hid (Below.andThen BB.out hb)
  clear hb
  go_wp2_with fail
  with_reducible refine Calls.mono (C8.out _) ?_
  rintro e w9 ⟨rfl, hb⟩
  replace HT := Lib.hid (HT.out.next hb)
  replace HL := Lib.hid (HL.out.next hb)
  replace HP := Lib.hid (HP.out.next hb)
  replace HX := Lib.hid (HX.out.next hb)
  replace BB := Lib.hid (Below.andThen BB.out hb)
  clear hb
  go_wp2_with fail
  with_reducible refine Calls.mono (C9.out _ _ HT.out HP.out) ?_
  rintro e w10 ⟨rfl, hb⟩
  replace HT := Lib.hid (HT.out.next hb)
  replace HL := Lib.hid (HL.out.next hb)
  replace HP := Lib.hid (HP.out.next hb)
  replace HX := Lib.hid (HX.out.next hb)
  replace BB := Lib.hid (Below.andThen BB.out hb)
  clear hb
  go_wp2_with fail
  with_reducible refine Calls.mono (C10.out _ _ HT.out HP.out) ?_
  rintro e w11 ⟨rfl, hb⟩
  replace HT := Lib.hid (HT.out.next hb)
  replace HL := Lib.hid (HL.out.next hb)
  replace HP := Lib.hid (HP.out.next hb)
  replace HX := Lib.hid (HX.out.next hb)
  replace BB := Lib.hid (Below.andThen BB.out hb)
  clear hb
  go_wp2_with fail
  with_reducible refine Calls.mono (C11.out _ _ HT.out HL.out) ?_
  rintro e w12 ⟨rfl, hb⟩
  replace HT := Lib.hid (HT.out.next hb)
  replace HL := Lib.hid (HL.out.next hb)
  replace HP := Lib.hid (HP.out.next hb)
  replace HX := Lib.hid (HX.out.next hb)
  replace BB := Lib.hid (Below.andThen BB.out hb)
  clear hb
  go_wp2_with fail
  with_reducible refine Calls.mono (C12.out _ _ HT.out HX.out) ?_
  rintro e w13 ⟨rfl, hb⟩
  replace HT := Lib.hid (HT.out.next hb)
  replace HL := Lib.hid (HL.out.next hb)
  replace HP := Lib.hid (HP.out.next hb)
  replace HX := Lib.hid (HX.out.next hb)
  replace BB := Lib.hid (Below.andThen BB.out hb)
  clear hb
  go_wp2_with fail
  with_reducible refine Calls.mono (C13.out _ _ HT.out HL.out) ?_
  rintro e w14 ⟨rfl, hb⟩
  replace HT := Lib.hid (HT.out.next hb)
  replace HL := Lib.hid (HL.out.next hb)
  replace HP := Lib.hid (HP.out.next hb)
  replace HX := Lib.hid (HX.out.next hb)
  replace BB := Lib.hid (Below.andThen BB.out hb)
  clear hb
  go_wp2_with fail
  with_reducible refine Calls.mono (C14.out _ _ HT.out HX.out) ?_
  rintro e w15 ⟨rfl, hb⟩
  replace HT := Lib.hid (HT.out.next hb)
  replace HL := Lib.hid (HL.out.next hb)
  replace HP := Lib.hid (HP.out.next hb)
  replace HX := Lib.hid (HX.out.next hb)
  replace BB := Lib.hid (Below.andThen BB.out hb)
  clear hb
  go_wp2_with fail
  go_ret
  exact ⟨rfl, BB.out⟩
end Go.Proofs.YtojfblkmhdgjeaaDoor
