/- Splitting at a byte and joining again; two and four digits as numbers: plain mathematics. -/
import Derived.Test.YtdldokhiefeloaaDoorCalX
import Derived.Test.YtdldokhiefeloaaDoorCalO
import Derived.Lib.SplitLaws
import Derived.Lib.Join
namespace Go.Proofs.YtdldokhiefeloaaDoor
open Go.RowKit

theorem index_byte (c : UInt8) (r : List UInt8) : ∀ a : List UInt8, c ∉ a → Lib.index (a ++ c :: r) [c] = a.length
  | [], _ => by
    show Lib.index (c :: r) [c] = _
    unfold Lib.index
    rw [if_pos (by simp)]
    rfl
  | b :: a, h => by
    have hb : c ≠ b := fun e => h (by rw [e]; exact List.mem_cons_self)
    have ih := index_byte c r a (fun e => h (List.mem_cons_of_mem _ e))
    show Lib.index (b :: (a ++ c :: r)) [c] = _
    unfold Lib.index
    rw [if_neg (by simp [hb]), ih, if_neg (by rw [beq_iff_eq]; omega)]
    simp
def splitL (s : List UInt8) (c : UInt8) : List (List UInt8) := Lib.splitK [c] 0 (Lib.count s [c]) s
theorem splitL_none {s : List UInt8} {c : UInt8} (h : c ∉ s) : splitL s c = [s] := by
  unfold splitL
  rw [Lib.count_one, List.count_eq_zero.2 h]
  rfl
theorem splitL_app {a : List UInt8} {c : UInt8} (h : c ∉ a) (r : List UInt8) : splitL (a ++ c :: r) c = a :: splitL r c := by
  have e : Lib.count (a ++ c :: r) [c] = Lib.count r [c] + 1 := by
    rw [Lib.count_one, Lib.count_one, List.count_append, List.count_cons_self, List.count_eq_zero.2 h, Nat.zero_add]
  unfold splitL
  rw [e]
  unfold Lib.splitK
  have hi := index_byte c r a h
  rw [if_neg (by rw [hi, beq_iff_eq]; omega), hi]
  have t1 : (a ++ c :: r).take ((a.length : Int).toNat + 0) = a := by simp
  have t2 : (a ++ c :: r).drop ((a.length : Int).toNat + [c].length) = r := by
    rw [show (a.length : Int).toNat = a.length from rfl, ← List.drop_drop, List.drop_left]
    rfl
  rw [t1, t2]
  cases Lib.count r [c] <;> rfl
theorem splitL_ne (s : List UInt8) (c : UInt8) : splitL s c ≠ [] := by
  unfold splitL
  generalize Lib.count s [c] = k
  cases k with
  | zero => simp [Lib.splitK]
  | succ k => unfold Lib.splitK; split <;> simp
theorem join_splitL (c : UInt8) : ∀ (n : Nat) (s : List UInt8), s.length ≤ n → Lib.join (splitL s c) [c] = s := by
  intro n
  induction n with
  | zero =>
    intro s h
    obtain rfl : s = [] := List.length_eq_zero_iff.1 (by omega)
    rw [splitL_none (by simp), Lib.join_one]
  | succ n ih =>
    intro s h
    by_cases hc : c ∈ s
    · obtain ⟨a, r, rfl, ha⟩ := List.eq_append_cons_of_mem hc
      have := ih r (by simp at h; omega)
      rw [splitL_app ha]
      cases hs : splitL r c with
      | nil => exact absurd hs (splitL_ne r c)
      | cons y t =>
        rw [hs, Lib.join_cons] at this
        rw [Lib.join_cons]
        have e : Lib.joinTail [c] (y :: t) = [c] ++ (y ++ Lib.joinTail [c] t) := by simp [Lib.joinTail]
        rw [e, this]
        rfl
    · rw [splitL_none hc, Lib.join_one]
theorem pieces_list (s : ByteArray) (c : UInt8) : (pieces s ⟨#[c]⟩).map (·.data.toList) = splitL s.data.toList c := Lib.splitB_data ⟨#[c]⟩ 0 _ s
theorem bytes_eq {a b : ByteArray} (h : a.data.toList = b.data.toList) : a = b := by
  cases a; cases b
  simp only at h
  congr 1
  exact Array.toList_inj.1 h
theorem pieces_of {s : ByteArray} {c : UInt8} {ps : List ByteArray} (h : splitL s.data.toList c = ps.map (·.data.toList)) : pieces s ⟨#[c]⟩ = ps := by
  rw [← pieces_list] at h
  exact (List.map_inj_right (fun _ _ => bytes_eq)).1 h

/-! ### digits -/
theorem digB_iff (x : UInt8) : digB x = true ↔ 48 ≤ x.toNat ∧ x.toNat ≤ 57 := by simp [digB]
theorem dg_step {n : Int} (h : 0 ≤ n ∧ n ≤ 100000) {l : List UInt8} (hl : dgF l = n) (x : UInt8) (hx : digB x = true) : dgF (l ++ [x]) = 10 * n + ((x.toNat : Int) - 48) := by
  have := (digB_iff x).1 hx
  rw [dgF_more, hl, wrap_in (x := 10 * n) (by omega), wrap_in (by omega)]
theorem dg2 {x y : UInt8} (hx : digB x = true) (hy : digB y = true) : dgF [x, y] = 10 * ((x.toNat : Int) - 48) + ((y.toNat : Int) - 48) := by
  have a := (digB_iff x).1 hx
  have h1 := dg_step (n := 0) (by omega) (l := []) rfl x hx
  have h2 := dg_step (by omega) h1 y hy
  simp only [List.nil_append, List.cons_append] at h2
  rw [h2]
  omega
theorem dg4 {x y z t : UInt8} (hx : digB x = true) (hy : digB y = true) (hz : digB z = true) (ht : digB t = true) : dgF [x, y, z, t] = 1000 * ((x.toNat : Int) - 48) + 100 * ((y.toNat : Int) - 48) + 10 * ((z.toNat : Int) - 48) + ((t.toNat : Int) - 48) := by
  have a := (digB_iff x).1 hx
  have b := (digB_iff y).1 hy
  have c := (digB_iff z).1 hz
  have h2 := dg2 hx hy
  have h3 := dg_step (by omega) h2 z hz
  have h4 := dg_step (by omega) h3 t ht
  simp only [List.nil_append, List.cons_append] at h4
  rw [h4]
  omega
theorem pad_dig {n : Int} (h : 0 ≤ n ∧ n ≤ 99) : digB (UInt8.ofNat (48 + n / 10).toNat) = true ∧ digB (UInt8.ofNat (48 + n % 10).toNat) = true ∧ ((UInt8.ofNat (48 + n / 10).toNat).toNat : Int) = 48 + n / 10 ∧ ((UInt8.ofNat (48 + n % 10).toNat).toNat : Int) = 48 + n % 10 := by
  have a1 := digit_nat (n / 10) (by omega)
  have a2 := digit_nat (n % 10) (by omega)
  rw [digB_iff, digB_iff]
  omega
theorem padL_mem {n : Int} (h : 0 ≤ n ∧ n ≤ 99) {c : UInt8} (hc : c.toNat < 48 ∨ 57 < c.toNat) : c ∉ padL n := by
  obtain ⟨h1, h2, _, _⟩ := pad_dig h
  rw [digB_iff] at h1 h2
  unfold padL
  intro hm
  rcases List.mem_cons.1 hm with e | hm
  · rw [← e] at h1; omega
  · rcases List.mem_cons.1 hm with e | hm
    · rw [← e] at h2; omega
    · simp at hm
theorem digits_pad {n : Int} (h : 0 ≤ n ∧ n ≤ 99) : digitsR (padS n) = (n, true) := by
  obtain ⟨h1, h2, e1, e2⟩ := pad_dig h
  have hd := dg2 h1 h2
  unfold digitsR
  rw [show (padS n).data.toList = [UInt8.ofNat (48 + n / 10).toNat, UInt8.ofNat (48 + n % 10).toNat] from rfl, if_pos (by simp [h1, h2]), hd, e1, e2]
  congr 1
  omega
theorem digits_pad4 {n : Int} (h : 0 ≤ n ∧ n ≤ 9999) : digitsR (padS (n / 100) ++ padS (n % 100)) = (n, true) := by
  obtain ⟨h1, h2, e1, e2⟩ := pad_dig (n := n / 100) (by omega)
  obtain ⟨h3, h4, e3, e4⟩ := pad_dig (n := n % 100) (by omega)
  have hd := dg4 h1 h2 h3 h4
  unfold digitsR
  rw [show (padS (n / 100) ++ padS (n % 100)).data.toList = [UInt8.ofNat (48 + n / 100 / 10).toNat, UInt8.ofNat (48 + n / 100 % 10).toNat, UInt8.ofNat (48 + n % 100 / 10).toNat, UInt8.ofNat (48 + n % 100 % 10).toNat] by rw [app_list]; rfl, if_pos (by simp only [List.all_cons, List.all_nil, h1, h2, h3, h4, Bool.and_self]), hd, e1, e2, e3, e4]
  congr 1
  omega
theorem byte_eq {x : UInt8} {n : Int} (h : 48 + n = x.toNat) : UInt8.ofNat (48 + n).toNat = x := by
  rw [h]
  simp
/-- two digits are what is printed of their number -/
theorem pad_digits {p : ByteArray} (hs : p.size = 2) (hd : (digitsR p).2 = true) : p = padS (digitsR p).1 ∧ 0 ≤ (digitsR p).1 ∧ (digitsR p).1 ≤ 99 := by
  have hl : p.data.toList.length = 2 := hs
  unfold digitsR at hd ⊢
  split at hd
  next h =>
    rw [if_pos h]
    obtain ⟨x, y, e⟩ : ∃ x y, p.data.toList = [x, y] := by
      match hp : p.data.toList, hl with
      | [x, y], _ => exact ⟨x, y, rfl⟩
    rw [e] at h
    simp only [List.all_cons, List.all_nil, Bool.and_true, Bool.and_eq_true] at h
    have a := (digB_iff x).1 h.1
    have b := (digB_iff y).1 h.2
    refine ⟨bytes_eq ?_, ?_⟩
    · show p.data.toList = padL (dgF p.data.toList)
      rw [e, dg2 h.1 h.2]
      unfold padL
      rw [byte_eq (x := x) (by omega), byte_eq (x := y) (by omega)]
    · dsimp only
      rw [e, dg2 h.1 h.2]
      omega
  next h => cases hd
theorem pad_digits4 {p : ByteArray} (hs : p.size = 4) (hd : (digitsR p).2 = true) : p = padS ((digitsR p).1 / 100) ++ padS ((digitsR p).1 % 100) ∧ 0 ≤ (digitsR p).1 ∧ (digitsR p).1 ≤ 9999 := by
  have hl : p.data.toList.length = 4 := hs
  unfold digitsR at hd ⊢
  split at hd
  next h =>
    rw [if_pos h]
    obtain ⟨x, y, z, t, e⟩ : ∃ x y z t, p.data.toList = [x, y, z, t] := by
      match hp : p.data.toList, hl with
      | [x, y, z, t], _ => exact ⟨x, y, z, t, rfl⟩
    rw [e] at h
    simp only [List.all_cons, List.all_nil, Bool.and_true, Bool.and_eq_true] at h
    have a := (digB_iff x).1 h.1
    have b := (digB_iff y).1 h.2.1
    have c := (digB_iff z).1 h.2.2.1
    have d := (digB_iff t).1 h.2.2.2
    refine ⟨bytes_eq ?_, ?_⟩
    · rw [app_list]
      show p.data.toList = padL (dgF p.data.toList / 100) ++ padL (dgF p.data.toList % 100)
      rw [e, dg4 h.1 h.2.1 h.2.2.1 h.2.2.2]
      unfold padL
      rw [byte_eq (x := x) (by omega), byte_eq (x := y) (by omega), byte_eq (x := z) (by omega), byte_eq (x := t) (by omega)]
      rfl
    · dsimp only
      rw [e, dg4 h.1 h.2.1 h.2.2.1 h.2.2.2]
      omega
  next h => cases hd
end Go.Proofs.YtdldokhiefeloaaDoor
