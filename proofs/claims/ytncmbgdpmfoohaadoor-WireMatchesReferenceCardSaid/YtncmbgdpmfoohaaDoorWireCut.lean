/- WireTruncated: no beginning of an encoding is accepted, and no encoding is the beginning of another one. -/
import Derived.Test.YtncmbgdpmfoohaaDoorWireTrip
namespace Go.Proofs.YtncmbgdpmfoohaaDoor
open Go.RowKit

/-! ### Plain mathematics -/
theorem dec_cut : ∀ (z k i z0 : Nat), k < (encB z).length → dec ((encB z).take k) i z0 = none := by
  intro z
  induction z using Nat.strongRecOn with
  | _ z ih =>
    intro k i z0 hk
    cases k with
    | zero => rfl
    | succ k =>
      by_cases h : z < 128
      · rw [encB_lt h] at hk; simp at hk
      · have e : (UInt8.ofNat (z % 128 + 128)).toNat = z % 128 + 128 := byte_of (by omega)
        rw [encB_ge h] at hk ⊢
        simp only [List.take_succ_cons, dec, e]
        split
        · rfl
        · rw [if_pos (by omega)]
          exact ih (z / 128) (by omega) k _ _ (by simpa using hk)

theorem trip_int0 {n : Int} (h1 : -maxI ≤ n) (h2 : n ≤ maxI) (q : ByteArray) : intR (encS n ++ q).data.toList 0 = (n, ((encS n).size : Int), 0) := by
  have h := trip_int h1 h2 ⟨#[]⟩ q
  rw [show (⟨#[]⟩ : ByteArray) ++ encS n = encS n by apply ByteArray.ext; simp] at h
  have z : ((⟨#[]⟩ : ByteArray).size : Int) = 0 := rfl
  rw [z, Int.zero_add] at h
  exact h

theorem cut_int {n : Int} {k : Nat} (hk : k < (encS n).size) : intR ((encS n).extract 0 k).data.toList 0 = (0, 0, 10) := by
  have e : ((encS n).extract 0 k).data.toList = (encB (foldZ n)).take k := by
    rw [ByteArray.data_extract, Array.toList_extract, encS_list, List.extract_eq_take_drop]
    simp
  have hk' : k < (encB (foldZ n)).length := by
    have : (encS n).size = (encB (foldZ n)).length := by rw [← encS_list]; simp
    omega
  unfold intR
  rw [if_neg (by simp), e]
  simp only [Int.toNat_zero, List.drop_zero]
  rw [dec_cut _ _ _ _ hk']

theorem cut_string {t : ByteArray} {k : Nat} (ht : t.size ≤ 65536) (hk : k < (encS t.size ++ t).size) : strR ((encS t.size ++ t).extract 0 k) 0 = (⟨#[]⟩, 0, 10) := by
  by_cases h : k < (encS (t.size : Int)).size
  · have e : (encS (t.size : Int) ++ t).extract 0 k = (encS (t.size : Int)).extract 0 k := by
      apply ByteArray.ext
      apply Array.ext'
      rw [ByteArray.data_extract, ByteArray.data_extract, Array.toList_extract, Array.toList_extract, toList_append, List.extract_eq_take_drop, List.extract_eq_take_drop]
      simp only [List.drop_zero, Nat.sub_zero]
      exact List.take_append_of_le_length (by simp; omega)
    rw [e]
    unfold strR
    rw [cut_int h]
    rfl
  · have e : (encS (t.size : Int) ++ t).extract 0 k = encS (t.size : Int) ++ t.extract 0 (k - (encS (t.size : Int)).size) := by
      apply ByteArray.ext
      apply Array.ext'
      rw [toList_append, ByteArray.data_extract, ByteArray.data_extract, Array.toList_extract, Array.toList_extract, toList_append, List.extract_eq_take_drop, List.extract_eq_take_drop]
      simp only [List.drop_zero, Nat.sub_zero]
      rw [List.take_append]
      congr 1
      · exact List.take_of_length_le (by simp; omega)
    have hI' := trip_int0 (n := (t.size : Int)) (by unfold maxI; omega) (by unfold maxI; omega) (t.extract 0 (k - (encS (t.size : Int)).size))
    rw [← e] at hI'
    have hs : ((encS (t.size : Int) ++ t).extract 0 k).size = k := by rw [ByteArray.size_extract]; omega
    unfold strR
    rw [hI', hs]
    simp only [ne_eq, not_true_eq_false, if_false]
    rw [ByteArray.size_append] at hk
    rw [if_pos (by omega)]

/-- an encoding is the beginning of another one only if it is it -/
theorem prefix_enc {m n : Int} (h1 : -maxI ≤ m) (h2 : m ≤ maxI) (h3 : -maxI ≤ n) (h4 : n ≤ maxI) (h : (encS n).extract 0 (encS m).size = encS m) : m = n := by
  have e : encS n = encS m ++ (encS n).extract (encS m).size (encS n).size := by
    apply ByteArray.ext
    apply Array.ext'
    have h' := congrArg (fun x : ByteArray => x.data.toList) h
    simp only [ByteArray.data_extract, Array.toList_extract, List.extract_eq_take_drop, List.drop_zero, Nat.sub_zero] at h'
    rw [toList_append, ← h', ByteArray.data_extract, Array.toList_extract, List.extract_eq_take_drop, List.take_of_length_le (l := List.drop (encS m).size (encS n).data.toList) (by simp), List.take_append_drop]
  have a' := trip_int0 h1 h2 ((encS n).extract (encS m).size (encS n).size)
  have b' := trip_int0 h3 h4 ⟨#[]⟩
  rw [← e] at a'
  rw [show encS n ++ (⟨#[]⟩ : ByteArray) = encS n by apply ByteArray.ext; simp] at b'
  rw [a'] at b'
  exact congrArg Prod.fst b'
theorem encS_pos (n : Int) : 0 < (encS n).size := by
  have := encB_ne (foldZ n)
  have h : (encS n).size = (encB (foldZ n)).length := by rw [← encS_list]; simp
  rw [h]
  exact List.length_pos_iff.2 this
end Go.Proofs.YtncmbgdpmfoohaaDoor
