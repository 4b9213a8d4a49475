/- WireRoundTrip: what was encoded is decoded, wherever it stands. -/
import Derived.Test.YtncmbgdpmfoohaaDoorWireF
import Derived.Test.YtncmbgdpmfoohaaDoorMem
import Derived.Deep.DeepCutAuto
namespace Go.Proofs.YtncmbgdpmfoohaaDoor
open Go.RowKit

/-! ### Plain mathematics -/
theorem toList_append (a b : ByteArray) : (a ++ b).data.toList = a.data.toList ++ b.data.toList := by
  rw [ByteArray.data_append]; simp
theorem encS_list (n : Int) : (encS n).data.toList = encB (foldZ n) := by unfold encS; simp
theorem trip_int {n : Int} (h1 : -maxI ≤ n) (h2 : n ≤ maxI) (p q : ByteArray) : intR (p ++ encS n ++ q).data.toList p.size = (n, (p.size : Int) + ((encS n).size : Int), 0) := by
  have e9 : (128 : Nat) ^ (8 + 1) = 9223372036854775808 := by decide
  have hz := foldZ_bd h1 h2
  have hd := dec_enc 8 (foldZ n) 0 0 q.data.toList (by omega) (by omega) (by omega) (by simp only [Nat.pow_zero, Nat.mul_one, Nat.zero_add]; rw [un_fold]; exact h1)
  simp only [Nat.pow_zero, Nat.mul_one, Nat.zero_add, un_fold] at hd
  have hs : (p ++ encS n ++ q).data.toList.drop p.size = encB (foldZ n) ++ q.data.toList := by
    rw [toList_append, toList_append, encS_list, List.append_assoc, List.drop_append_of_le_length (by simp), List.drop_of_length_le (by simp)]
    simp
  unfold intR
  rw [if_neg (by simp; omega)]
  simp only [Int.toNat_natCast]
  rw [hs, hd]
  rfl
theorem encS_le {n : Int} (h1 : -maxI ≤ n) (h2 : n ≤ maxI) : (encS n).size ≤ 9 := by
  have e9 : (128 : Nat) ^ (8 + 1) = 9223372036854775808 := by decide
  have hz := foldZ_bd h1 h2
  have h3 := encB_len 8 (foldZ n) (by omega)
  show (encB (foldZ n)).toArray.size ≤ 9
  simpa using h3
theorem list_mid (P E T Q : List UInt8) : (List.drop (P.length + E.length) (P ++ (E ++ T) ++ Q)).take T.length = T := by
  rw [show P ++ (E ++ T) ++ Q = (P ++ E) ++ (T ++ Q) by simp, List.drop_append_of_le_length (by simp), List.drop_of_length_le (by simp)]
  simp
theorem trip_string (t p q : ByteArray) (h : t.size ≤ 65536) : strR (p ++ (encS t.size ++ t) ++ q) p.size = (t, (p.size : Int) + ((encS t.size ++ t).size : Int), 0) := by
  have hI : intR (p ++ (encS t.size ++ t) ++ q).data.toList p.size = ((t.size : Int), (p.size : Int) + ((encS (t.size : Int)).size : Int), 0) := by
    have := trip_int (n := (t.size : Int)) (by unfold maxI; omega) (by unfold maxI; omega) p (t ++ q)
    rw [show p ++ (encS t.size ++ t) ++ q = p ++ encS t.size ++ (t ++ q) by simp [ByteArray.append_assoc]]
    exact this
  unfold strR
  rw [hI]
  simp only [ne_eq, not_true_eq_false, if_false]
  rw [if_neg (by simp [ByteArray.size_append]; omega)]
  have e1 : ((p.size : Int) + ((encS (t.size : Int)).size : Int)).toNat = p.size + (encS (t.size : Int)).size := by omega
  rw [e1, Int.toNat_natCast]
  refine Prod.ext ?_ (Prod.ext ?_ rfl)
  · apply ByteArray.ext
    apply Array.ext'
    rw [ByteArray.data_extract, Array.toList_extract, toList_append, toList_append, toList_append]
    simp only [List.extract_eq_take_drop]
    rw [show p.size + (encS (t.size : Int)).size + t.size - (p.size + (encS (t.size : Int)).size) = t.data.toList.length by simp,
      show p.size + (encS (t.size : Int)).size = p.data.toList.length + (encS (t.size : Int)).data.toList.length by simp]
    exact list_mid _ _ _ _
  · simp [ByteArray.size_append]; omega

/-- the first bytes of a string -/
def cutS (s : ByteArray) (n : Nat) : ByteArray := s.extract 0 (min s.size n)
theorem cutS_size (s : ByteArray) (n : Nat) : (cutS s n).size ≤ n := by
  unfold cutS
  rw [ByteArray.size_extract]
  omega

theorem cutS_small {s : ByteArray} {n : Nat} (h : s.size ≤ n) : cutS s n = s := by
  unfold cutS
  rw [Nat.min_eq_left h]
  exact ByteArray.extract_zero_size
theorem cutS_big {s : ByteArray} {n : Nat} (h : ¬ s.size ≤ n) : cutS s n = s.extract 0 n := by
  unfold cutS
  rw [Nat.min_eq_right (by omega)]

set_option maxRecDepth 100000 in
set_option maxHeartbeats 2000000 in
theorem wireRoundTrip_any (c : Int) (t p q : ByteArray) (w : World) (T : Tab w) (a0 : -9223372036854775808 ≤ c ∧ c ≤ 9223372036854775807) (a1 : t.size ≤ maxLen) (a2 : p.size ≤ maxLen) (a3 : q.size ≤ maxLen) :
    Calls Tryd.prog 4 #[.int .i64 c, .string t, .agg #[.string p, .string q]] w fun r w' => r = .returned (.bool true) ∧ Below w.heap.size w w' := by
  have HT := Lib.hid T
  have BB := Lib.hid (Below.refl w.heap.size w)
  have hn := num_bd c
  unfold maxLen at a1 a2 a3
  clear T
  go_enter Tryd.func4, Tryd.ntmps4
  go_wp2_with fail
  refine (sane_any _ (HT.out.next (by (repeat' first | exact Below.refl _ _ | assumption | (refine below_drewN ?_ _) | (refine Below.drew ?_) | (refine Below.alloc ?_ ?_ _) | (refine Below.setCell ?_ ?_ _) | (simp; done) | (simp; omega) | omega)))).mono ?_
  rintro e w1 ⟨rfl, hb⟩
  have HB := Lib.hid hb
  have hW : Below w.heap.size w w1 := by (repeat' first | exact Below.refl _ _ | assumption | (refine Below.andThen ?_ HB.out) | (exact HB.out.size) | (refine below_drewN ?_ _) | (refine Below.drew ?_) | (refine Below.alloc ?_ ?_ _) | (refine Below.setCell ?_ ?_ _) | (simp; done) | (simp; omega) | omega)
  have F0 : Has2 w1 (w.heap.size) (.string p) (.string q) := has2 ⟨(by first | (simp; done) | (simp; omega)), by go_simp, by go_simp⟩ hb
  replace BB := Lib.hid (Below.andThen BB.out hW)
  replace HT := Lib.hid (HT.out.next hW)
  clear hb hW HB
  go_wp2_with fail
  refine (number_any _ _ a0.1 a0.2).mono ?_
  rintro e w2 ⟨rfl, hb⟩
  have HB := Lib.hid hb
  have hW : Below w1.heap.size w1 w2 := by (repeat' first | exact Below.refl _ _ | assumption | (refine Below.andThen ?_ HB.out) | (exact HB.out.size) | (refine below_drewN ?_ _) | (refine Below.drew ?_) | (refine Below.alloc ?_ ?_ _) | (refine Below.setCell ?_ ?_ _) | (simp; done) | (simp; omega) | omega)
  replace F0 := has2 F0 hW
  replace BB := Lib.hid (Below.andThen BB.out hW)
  replace HT := Lib.hid (HT.out.next hW)
  clear hb hW HB
  go_upto_region 3 with (fail)
  go_cut [9] (fun v wx => v = .string (cutS p 200) ∧ wx = w2)
  case first =>
    by_cases hcs : (p).size ≤ 200
    · have ecs := Lib.hid (cutS_small hcs)
      go_wp2_with fail
      go_meet
      exact ⟨congrArg Value.string ecs.out.symm, rfl⟩
    · have ecs := Lib.hid (cutS_big hcs)
      go_wp2_with fail
      go_meet
      exact ⟨congrArg Value.string ecs.out.symm, rfl⟩
  obtain ⟨rfl, rfl⟩ := hcut
  rename World => w2
  go_upto_region 4 with (fail)
  go_cut [10] (fun v wx => v = .string (cutS q 200) ∧ wx = w2)
  case first =>
    by_cases hcs : (q).size ≤ 200
    · have ecs := Lib.hid (cutS_small hcs)
      go_wp2_with fail
      go_meet
      exact ⟨congrArg Value.string ecs.out.symm, rfl⟩
    · have ecs := Lib.hid (cutS_big hcs)
      go_wp2_with fail
      go_meet
      exact ⟨congrArg Value.string ecs.out.symm, rfl⟩
  obtain ⟨rfl, rfl⟩ := hcut
  rename World => w2
  clear F0
  go_upto_region 5 with (fail)
  go_cut [11] (fun v wx => v = .string (cutS t 200) ∧ wx = w2)
  case first =>
    by_cases hcs : (t).size ≤ 200
    · have ecs := Lib.hid (cutS_small hcs)
      go_wp2_with fail
      go_meet
      exact ⟨congrArg Value.string ecs.out.symm, rfl⟩
    · have ecs := Lib.hid (cutS_big hcs)
      go_wp2_with fail
      go_meet
      exact ⟨congrArg Value.string ecs.out.symm, rfl⟩
  obtain ⟨rfl, rfl⟩ := hcut
  rename World => w2
  have z1 := cutS_size p 200
  have z2 := cutS_size q 200
  have z3 := cutS_size t 200
  generalize cutS p 200 = p' at *
  generalize cutS q 200 = q' at *
  generalize cutS t 200 = t' at *
  have eP : putV (numZ c) = .tuple #[.string (encS (numZ c)), .int .i64 0] := by unfold putV putR maxI; rw [if_pos (by omega)]; rfl
  have eQ : putSV t' = .tuple #[.string (encS t'.size ++ t'), .int .i64 0] := by unfold putSV putSR; rw [if_neg (by omega)]
  have eI := trip_int (n := numZ c) (by unfold maxI; omega) (by unfold maxI; omega) p' q'
  have eS := trip_string t' p' q' (by omega)
  have s1 : (encS (numZ c)).size ≤ 9 := encS_le (by unfold maxI; omega) (by unfold maxI; omega)
  have s2 : (encS t'.size ++ t').size ≤ 209 := by
    have := encS_size t'.size (by omega)
    rw [ByteArray.size_append]; omega
  generalize encS (numZ c) = A at *
  generalize encS t'.size ++ t' = B at *
  have eI' : intV (intR (p' ++ A ++ q').data.toList p'.size) = .tuple #[.int .i64 (numZ c), .int .i64 (p'.size + A.size), .int .i64 0] := by rw [eI]; rfl
  have eS' : strV (strR (p' ++ B ++ q') p'.size) = .tuple #[.string t', .int .i64 (p'.size + B.size), .int .i64 0] := by rw [eS]; rfl
  have b1 : (p' ++ A ++ q').size ≤ maxLen := by unfold maxLen; rw [ByteArray.size_append, ByteArray.size_append]; omega
  have b2 : (p' ++ B ++ q').size ≤ maxLen := by unfold maxLen; rw [ByteArray.size_append, ByteArray.size_append]; omega
  have EP := Lib.hid eP
  have EQ := Lib.hid eQ
  have EI := Lib.hid eI'
  have ES := Lib.hid eS'
  have B1 := Lib.hid b1
  have B2 := Lib.hid b2
  clear eP eQ eI eS eI' eS' b1 b2
  go_wp2_with fail
  refine (lit_v EP.out (put_any _ _)).mono ?_
  rintro e w3 ⟨rfl, hb⟩
  have HB := Lib.hid hb
  have hW : Below w2.heap.size w2 w3 := by (repeat' first | exact Below.refl _ _ | assumption | (refine Below.andThen ?_ HB.out) | (exact HB.out.size) | (refine below_drewN ?_ _) | (refine Below.drew ?_) | (refine Below.alloc ?_ ?_ _) | (refine Below.setCell ?_ ?_ _) | (simp; done) | (simp; omega) | omega)
  replace BB := Lib.hid (Below.andThen BB.out hW)
  replace HT := Lib.hid (HT.out.next hW)
  clear hb hW HB
  go_wp2_with fail
  refine (lit_v EQ.out (putString_any _ _ (by unfold maxLen; omega))).mono ?_
  rintro e w4 ⟨rfl, hb⟩
  have HB := Lib.hid hb
  have hW : Below w3.heap.size w3 w4 := by (repeat' first | exact Below.refl _ _ | assumption | (refine Below.andThen ?_ HB.out) | (exact HB.out.size) | (refine below_drewN ?_ _) | (refine Below.drew ?_) | (refine Below.alloc ?_ ?_ _) | (refine Below.setCell ?_ ?_ _) | (simp; done) | (simp; omega) | omega)
  replace BB := Lib.hid (Below.andThen BB.out hW)
  replace HT := Lib.hid (HT.out.next hW)
  clear hb hW HB
  go_wp2_with fail
  refine (same_v EI.out (int_any _ _ _ B1.out (by omega) (by omega))).mono ?_
  rintro e w5 ⟨rfl, hb⟩
  have HB := Lib.hid hb
  have hW : Below w4.heap.size w4 w5 := by (repeat' first | exact Below.refl _ _ | assumption | (refine Below.andThen ?_ HB.out) | (exact HB.out.size) | (refine below_drewN ?_ _) | (refine Below.drew ?_) | (refine Below.alloc ?_ ?_ _) | (refine Below.setCell ?_ ?_ _) | (simp; done) | (simp; omega) | omega)
  replace BB := Lib.hid (Below.andThen BB.out hW)
  replace HT := Lib.hid (HT.out.next hW)
  clear hb hW HB
  go_wp2_with fail
  refine (same_v ES.out (string_any _ _ _ B2.out (by omega) (by omega))).mono ?_
  rintro e w6 ⟨rfl, hb⟩
  have HB := Lib.hid hb
  have hW : Below w5.heap.size w5 w6 := by (repeat' first | exact Below.refl _ _ | assumption | (refine Below.andThen ?_ HB.out) | (exact HB.out.size) | (refine below_drewN ?_ _) | (refine Below.drew ?_) | (refine Below.alloc ?_ ?_ _) | (refine Below.setCell ?_ ?_ _) | (simp; done) | (simp; omega) | omega)
  replace BB := Lib.hid (Below.andThen BB.out hW)
  replace HT := Lib.hid (HT.out.next hW)
  clear hb hW HB
  go_wp2
  go_ret
  exact ⟨rfl, BB.out⟩
end Go.Proofs.YtncmbgdpmfoohaaDoor
