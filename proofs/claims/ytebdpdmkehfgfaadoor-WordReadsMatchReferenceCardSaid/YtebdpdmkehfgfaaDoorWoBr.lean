/- From lists of octets to the program's strings, and what the library's contracts say in the words of the mathematics. -/
import Derived.Test.YtebdpdmkehfgfaaDoorWoGW
import Derived.Test.YtebdpdmkehfgfaaDoorBytes
import Derived.Lib.IndexMore
import Derived.Lib.SlicesS
import Derived.Lib.Strings
set_option linter.unusedVariables false
set_option linter.unusedSimpArgs false
namespace Go.Proofs.YtebdpdmkehfgfaaDoor
open Go.RowKit
namespace Wo
/-- the string of some octets -/
def bs (l : B) : ByteArray := ⟨l.toArray⟩
abbrev sV (l : B) : Value := .string (bs l)
theorem bs_size (l : B) : (bs l).size = l.length := by simp [bs, ByteArray.size]
theorem bs_list (l : B) : (bs l).data.toList = l := by simp [bs]
theorem bs_of (s : ByteArray) : bs s.data.toList = s := by obtain ⟨⟨l⟩⟩ := s; rfl
theorem bs_inj {a b : B} (h : bs a = bs b) : a = b := by rw [← bs_list a, h, bs_list]
theorem bs_iff {a b : B} : bs a = bs b ↔ a = b := ⟨bs_inj, fun h => by rw [h]⟩
theorem exists_bs (s : ByteArray) : ∃ l, s = bs l := ⟨_, (bs_of s).symm⟩
theorem bs_append (a b : B) : bs a ++ bs b = bs (a ++ b) := by
  apply ByteArray.ext
  rw [ByteArray.data_append]
  simp [bs]
theorem isPrefixOf_nil {sep : B} (hs : sep ≠ []) : sep.isPrefixOf ([] : B) = false := by
  cases sep with
  | nil => exact absurd rfl hs
  | cons a l => rfl
theorem cut_index {sep : B} (hs : sep ≠ []) : ∀ (s : B), cut sep s = if 0 ≤ Lib.index s sep then some (s.take (Lib.index s sep).toNat, s.drop ((Lib.index s sep).toNat + sep.length)) else none
  | [] => by
    unfold cut Lib.index
    rw [isPrefixOf_nil hs]
    cases sep with
    | nil => exact absurd rfl hs
    | cons a l => rfl
  | c :: s => by
    have ih := cut_index hs s
    have ge := Lib.index_ge s sep
    unfold cut Lib.index
    cases hp : sep.isPrefixOf (c :: s) with
    | true => simp
    | false =>
      simp only [Bool.false_eq_true, if_false]
      rw [ih]
      by_cases h0 : 0 ≤ Lib.index s sep
      · have h1 : (Lib.index s sep == -1) = false := by simp; omega
        have h2 : 0 ≤ Lib.index s sep + 1 := by omega
        have e : (Lib.index s sep + 1).toNat = (Lib.index s sep).toNat + 1 := by omega
        simp only [h1, Bool.false_eq_true, if_false, if_pos h0, if_pos h2, e]
        simp [Nat.add_right_comm]
      · have h1 : (Lib.index s sep == -1) = true := by simp; omega
        simp only [h1, if_true, if_neg h0]
        rfl
theorem cut_lib {sep : B} (hs : sep ≠ []) (s : B) : Lib.cut s sep = match cut sep s with
    | some x => (x.1, x.2, true)
    | none => (s, [], false) := by
  rw [cut_index hs]
  unfold Lib.cut
  split <;> rfl
theorem idxFromS_is (x : B) : ∀ (l : List B) (i : Nat), Lib.idxFromS (l.map bs) (bs x) i = match idx x l with
    | some k => ((i + k : Nat) : Int)
    | none => -1
  | [], i => rfl
  | a :: l, i => by
    have ih := idxFromS_is x l (i + 1)
    by_cases h : a = x
    · subst h
      simp [Lib.idxFromS, idx, List.findIdx?_cons]
    · have h3 : ¬ bs a = bs x := fun e => h (bs_inj e)
      have h4 : ¬ bs x = bs a := fun e => h (bs_inj e).symm
      have e : idx x (a :: l) = (idx x l).map (· + 1) := by
        unfold idx
        rw [List.findIdx?_cons]
        have : (a == x) = false := by simpa using h
        rw [this]
        rfl
      rw [e]
      simp only [List.map_cons]
      unfold Lib.idxFromS
      first | rw [if_neg h3, ih] | rw [if_neg h4, ih]
      cases idx x l with
      | none => rfl
      | some k =>
        show ((i + 1 + k : Nat) : Int) = ((i + (k + 1) : Nat) : Int)
        omega
theorem idx_lib (x : B) (l : List B) : Lib.idxOfS (l.map bs) (bs x) = match idx x l with
    | some k => (k : Int)
    | none => -1 := by
  unfold Lib.idxOfS
  rw [idxFromS_is]
  cases idx x l <;> simp
theorem trim_lib (p s : B) : Lib.trimSuffix s p = trim p s := by
  unfold Lib.trimSuffix trim cutSuffix Lib.hasSuffix
  split <;> rfl
theorem suffix_lib (p s : B) : (Lib.trimSuffix s p, Lib.hasSuffix s p) = match cutSuffix p s with
    | some q => (q, true)
    | none => (s, false) := by
  unfold Lib.trimSuffix cutSuffix Lib.hasSuffix
  cases h : p.isSuffixOf s <;> simp
theorem prefix_lib (p s : B) : (Lib.trimPrefix s p, Lib.hasPrefix s p) = match cutPrefix p s with
    | some q => (q, true)
    | none => (s, false) := by
  unfold Lib.trimPrefix cutPrefix Lib.hasPrefix
  cases h : p.isPrefixOf s <;> simp
theorem map_bs_inj {a b : List B} : a.map bs = b.map bs ↔ a = b := by
  constructor
  · intro h
    exact List.map_inj_right (fun _ _ => bs_inj) |>.1 h
  · intro h; rw [h]
end Wo
end Go.Proofs.YtebdpdmkehfgfaaDoor
