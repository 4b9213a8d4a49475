/- Integers as strings: what the functions of the package return, as mathematics. -/
import Derived.Test.YtjhnfejlkljkjaaGreatDoorIntMathB
namespace Go.Proofs.YtjhnfejlkljkjaaGreatDoor
open Go.RowKit

namespace In
def valL (l : List UInt8) : Int := if l.head? = some 45 then -(val10 l.tail : Int) else (val10 l : Int)
theorem valL_txt (z : Int) : valL (txtL z) = z := by
  unfold valL txtL Lib.itoa
  by_cases h : z < 0
  · rw [if_pos h, List.head?_cons, if_pos rfl, List.tail_cons, dec_val]
    omega
  · rw [if_neg h, if_neg (head_dec _), dec_val]
    omega
theorem valid_val {l : List UInt8} (h : validL l = true) : l = txtL (valL l) ∧ (valL l).natAbs < 10 ^ 200 := by
  obtain ⟨z, rfl, hz⟩ := valid_is h
  rw [valL_txt]
  exact ⟨rfl, hz⟩
/-- a number has at most 200 digits -/
abbrev Fit (z : Int) : Prop := z.natAbs < 10 ^ 200
/-- the number that a string stands for, if it is valid -/
def num (s : ByteArray) : Option Int := if validL s.data.toList = true then some (valL s.data.toList) else none
theorem txt_list (z : Int) : (txt z).data.toList = txtL z := by simp [txt, txtL]
theorem txt_inj {a b : Int} (h : txt a = txt b) : a = b := txtL_inj (by rw [← txt_list, ← txt_list, h])
theorem num_txt (z : Int) : num (txt z) = if Fit z then some z else none := by
  unfold num
  rw [txt_list, valid_txt, valL_txt]
  by_cases h : Fit z
  · rw [if_pos h, decide_eq_true h, if_pos rfl]
  · rw [if_neg h, decide_eq_false h, if_neg (by simp)]
theorem num_fit {z : Int} (h : Fit z) : num (txt z) = some z := by rw [num_txt, if_pos h]
theorem num_some {s : ByteArray} {z : Int} (h : num s = some z) : s = txt z ∧ Fit z := by
  unfold num at h
  split at h
  · rename_i hv
    obtain ⟨h1, h2⟩ := valid_val hv
    obtain rfl := Option.some.inj h
    refine ⟨?_, h2⟩
    cases s with
    | mk d =>
      unfold txt
      congr 1
      apply Array.toList_inj.1
      rw [List.toList_toArray]
      exact h1
  · cases h
theorem num_none {s : ByteArray} : num s = none ↔ validL s.data.toList = false := by
  unfold num
  cases validL s.data.toList <;> simp
theorem num_isSome (s : ByteArray) : (num s).isSome = validL s.data.toList := by
  unfold num
  cases validL s.data.toList <;> simp
/-- a result, if it is not too large -/
def fit (z : Int) : ByteArray × Int := if Fit z then (txt z, 0) else (⟨#[]⟩, 30)
theorem fit_pos {z : Int} (h : Fit z) : fit z = (txt z, 0) := if_pos h
theorem fit_neg {z : Int} (h : ¬ Fit z) : fit z = (⟨#[]⟩, 30) := if_neg h
/-- an operation on two strings -/
def opS (f : Int → Int → Int) (s t : ByteArray) : ByteArray × Int :=
  match num s, num t with
  | some x, some y => fit (f x y)
  | _, _ => (⟨#[]⟩, 30)
theorem opS_some {f : Int → Int → Int} {s t : ByteArray} {x y : Int} (hs : num s = some x) (ht : num t = some y) : opS f s t = fit (f x y) := by unfold opS; rw [hs, ht]
theorem opS_left {f : Int → Int → Int} {s t : ByteArray} (hs : num s = none) : opS f s t = (⟨#[]⟩, 30) := by unfold opS; rw [hs]
theorem opS_right {f : Int → Int → Int} {s t : ByteArray} (ht : num t = none) : opS f s t = (⟨#[]⟩, 30) := by unfold opS; rw [ht]; cases num s <;> rfl
/-- comparison -/
def cmpZ (x y : Int) : Int := if x < y then -1 else if y < x then 1 else 0
def cmpS (s t : ByteArray) : Int :=
  match num s, num t with
  | some x, some y => cmpZ x y
  | _, _ => 0
theorem cmpS_some {s t : ByteArray} {x y : Int} (hs : num s = some x) (ht : num t = some y) : cmpS s t = cmpZ x y := by unfold cmpS; rw [hs, ht]
theorem cmpS_left {s t : ByteArray} (hs : num s = none) : cmpS s t = 0 := by unfold cmpS; rw [hs]
theorem cmpS_right {s t : ByteArray} (ht : num t = none) : cmpS s t = 0 := by unfold cmpS; rw [ht]; cases num s <;> rfl
/-- quotient and remainder -/
def divS (s t : ByteArray) : ByteArray × ByteArray × Int :=
  match num s, num t with
  | some x, some y => if y = 0 then (⟨#[]⟩, ⟨#[]⟩, 30) else if Fit (x / y) then (txt (x / y), txt (x % y), 0) else (⟨#[]⟩, ⟨#[]⟩, 30)
  | _, _ => (⟨#[]⟩, ⟨#[]⟩, 30)
theorem divS_some {s t : ByteArray} {x y : Int} (hs : num s = some x) (ht : num t = some y) (hy : y ≠ 0) : divS s t = if Fit (x / y) then (txt (x / y), txt (x % y), 0) else (⟨#[]⟩, ⟨#[]⟩, 30) := by unfold divS; rw [hs, ht]; exact if_neg hy
theorem divS_zero {s t : ByteArray} {x : Int} (hs : num s = some x) (ht : num t = some 0) : divS s t = (⟨#[]⟩, ⟨#[]⟩, 30) := by unfold divS; rw [hs, ht]; rfl
theorem divS_left {s t : ByteArray} (hs : num s = none) : divS s t = (⟨#[]⟩, ⟨#[]⟩, 30) := by unfold divS; rw [hs]
theorem divS_right {s t : ByteArray} (ht : num t = none) : divS s t = (⟨#[]⟩, ⟨#[]⟩, 30) := by unfold divS; rw [ht]; cases num s <;> rfl
/-- a quotient is not larger than what is divided, but for its sign -/
theorem quo_le (x y : Int) : (x / y).natAbs ≤ x.natAbs := Int.natAbs_ediv_le_natAbs x y
/-- the root -/
def rootS (s : ByteArray) : ByteArray × Int :=
  match num s with
  | some x => if x < 0 then (⟨#[]⟩, 30) else (txt (sqrtN x.natAbs), 0)
  | none => (⟨#[]⟩, 30)
theorem rootS_some {s : ByteArray} {x : Int} (hs : num s = some x) (hx : 0 ≤ x) : rootS s = (txt (sqrtN x.natAbs), 0) := by unfold rootS; rw [hs]; exact if_neg (by omega)
theorem rootS_neg {s : ByteArray} {x : Int} (hs : num s = some x) (hx : x < 0) : rootS s = (⟨#[]⟩, 30) := by unfold rootS; rw [hs]; exact if_pos hx
theorem rootS_none {s : ByteArray} (hs : num s = none) : rootS s = (⟨#[]⟩, 30) := by unfold rootS; rw [hs]
theorem sqrtN_le (n : Nat) : sqrtN n ≤ n := (sqrtF_ok n n).2.1
/-- as a machine's number -/
def toS (s : ByteArray) : Int × Int :=
  match num s with
  | some x => if -9223372036854775808 ≤ x ∧ x ≤ 9223372036854775807 then (x, 0) else (0, 30)
  | none => (0, 30)
theorem toS_some {s : ByteArray} {x : Int} (hs : num s = some x) : toS s = if -9223372036854775808 ≤ x ∧ x ≤ 9223372036854775807 then (x, 0) else (0, 30) := by unfold toS; rw [hs]
theorem toS_none {s : ByteArray} (hs : num s = none) : toS s = (0, 30) := by unfold toS; rw [hs]
abbrev gcdZ (x y : Int) : Int := ((Nat.gcd x.natAbs y.natAbs : Nat) : Int)
end In
end Go.Proofs.YtjhnfejlkljkjaaGreatDoor
