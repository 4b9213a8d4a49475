/- The package's functions at valid integers. -/
import Derived.Test.YtjhnfejlkljkjaaDoorIntFrame
import Derived.Test.YtjhnfejlkljkjaaDoorIntEx
import Derived.Test.YtjhnfejlkljkjaaDoorIntLaw
namespace Go.Proofs.YtjhnfejlkljkjaaDoor
open Go.RowKit

section
variable {x y : Int} (hx : In.Fit x) (hy : In.Fit y)
include hx hy
theorem Add_t (hz : In.Fit (x + y)) (W : World) (T : TabI W) : Calls Tryd.prog 14 #[.string (In.txt x), .string (In.txt y)] W fun e w' => e = .returned (.tuple #[.string (In.txt (x + y)), .int .i64 0]) ∧ Below W.heap.size W w' := by
  have h := Add_any (In.txt x) (In.txt y) W T
  rw [In.opS_some (In.num_fit hx) (In.num_fit hy)] at h
  have e : In.fit ((fun x y => x + y) x y) = (In.txt (x + y), 0) := In.fit_pos hz
  rw [e] at h
  exact h
theorem Add_no (hz : ¬ In.Fit (x + y)) (W : World) (T : TabI W) : Calls Tryd.prog 14 #[.string (In.txt x), .string (In.txt y)] W fun e w' => e = .returned (.tuple #[.string ⟨#[]⟩, .int .i64 30]) ∧ Below W.heap.size W w' := by
  have h := Add_any (In.txt x) (In.txt y) W T
  rw [In.opS_some (In.num_fit hx) (In.num_fit hy)] at h
  have e : In.fit ((fun x y => x + y) x y) = (⟨#[]⟩, 30) := In.fit_neg hz
  rw [e] at h
  exact h
theorem Sub_t (hz : In.Fit (x - y)) (W : World) (T : TabI W) : Calls Tryd.prog 15 #[.string (In.txt x), .string (In.txt y)] W fun e w' => e = .returned (.tuple #[.string (In.txt (x - y)), .int .i64 0]) ∧ Below W.heap.size W w' := by
  have h := Sub_any (In.txt x) (In.txt y) W T
  rw [In.opS_some (In.num_fit hx) (In.num_fit hy)] at h
  have e : In.fit ((fun x y => x - y) x y) = (In.txt (x - y), 0) := In.fit_pos hz
  rw [e] at h
  exact h
theorem Sub_no (hz : ¬ In.Fit (x - y)) (W : World) (T : TabI W) : Calls Tryd.prog 15 #[.string (In.txt x), .string (In.txt y)] W fun e w' => e = .returned (.tuple #[.string ⟨#[]⟩, .int .i64 30]) ∧ Below W.heap.size W w' := by
  have h := Sub_any (In.txt x) (In.txt y) W T
  rw [In.opS_some (In.num_fit hx) (In.num_fit hy)] at h
  have e : In.fit ((fun x y => x - y) x y) = (⟨#[]⟩, 30) := In.fit_neg hz
  rw [e] at h
  exact h
theorem Mul_t (hz : In.Fit (x * y)) (W : World) (T : TabI W) : Calls Tryd.prog 16 #[.string (In.txt x), .string (In.txt y)] W fun e w' => e = .returned (.tuple #[.string (In.txt (x * y)), .int .i64 0]) ∧ Below W.heap.size W w' := by
  have h := Mul_any (In.txt x) (In.txt y) W T
  rw [In.opS_some (In.num_fit hx) (In.num_fit hy)] at h
  have e : In.fit ((fun x y => x * y) x y) = (In.txt (x * y), 0) := In.fit_pos hz
  rw [e] at h
  exact h
theorem Mul_no (hz : ¬ In.Fit (x * y)) (W : World) (T : TabI W) : Calls Tryd.prog 16 #[.string (In.txt x), .string (In.txt y)] W fun e w' => e = .returned (.tuple #[.string ⟨#[]⟩, .int .i64 30]) ∧ Below W.heap.size W w' := by
  have h := Mul_any (In.txt x) (In.txt y) W T
  rw [In.opS_some (In.num_fit hx) (In.num_fit hy)] at h
  have e : In.fit ((fun x y => x * y) x y) = (⟨#[]⟩, 30) := In.fit_neg hz
  rw [e] at h
  exact h
theorem Gcd_t (W : World) (T : TabI W) : Calls Tryd.prog 21 #[.string (In.txt x), .string (In.txt y)] W fun e w' => e = .returned (.tuple #[.string (In.txt (In.gcdZ x y)), .int .i64 0]) ∧ Below W.heap.size W w' := by
  have h := Gcd_any (In.txt x) (In.txt y) W T
  rw [In.opS_some (In.num_fit hx) (In.num_fit hy), In.fit_pos (show In.Fit (In.gcdZ x y) from by
    show Int.natAbs ((Nat.gcd x.natAbs y.natAbs : Nat) : Int) < _
    rw [Int.natAbs_natCast]
    rcases Nat.eq_zero_or_pos x.natAbs with h0 | h0
    · rw [h0, Nat.gcd_zero_left]; exact hy
    · exact Nat.lt_of_le_of_lt (Nat.gcd_le_left _ h0) hx)] at h
  exact h
theorem Div_t (h0 : y ≠ 0) (W : World) (T : TabI W) : Calls Tryd.prog 18 #[.string (In.txt x), .string (In.txt y)] W fun e w' => e = .returned (.tuple #[.string (In.txt (x / y)), .string (In.txt (x % y)), .int .i64 0]) ∧ Below W.heap.size W w' := by
  have h := Div_any (In.txt x) (In.txt y) W T
  rw [divS_fit (In.num_fit hx) (In.num_fit hy) h0 hx] at h
  exact h
theorem Cmp_t (W : World) : Calls Tryd.prog 17 #[.string (In.txt x), .string (In.txt y)] W fun e w' => e = .returned (.int .i64 (In.cmpZ x y)) ∧ Below W.heap.size W w' := by
  have h := Compare_any (In.txt x) (In.txt y) W
  rw [In.cmpS_some (In.num_fit hx) (In.num_fit hy)] at h
  exact h
end
theorem Div_z {x : Int} (hx : In.Fit x) (W : World) (T : TabI W) : Calls Tryd.prog 18 #[.string (In.txt x), .string (In.txt 0)] W fun e w' => e = .returned (.tuple #[.string ⟨#[]⟩, .string ⟨#[]⟩, .int .i64 30]) ∧ Below W.heap.size W w' := by
  have h := Div_any (In.txt x) (In.txt 0) W T
  rw [In.divS_zero (In.num_fit hx) (In.num_fit (by decide))] at h
  exact h
theorem Root_t {x : Int} (hx : In.Fit x) (h0 : 0 ≤ x) (W : World) (T : TabI W) : Calls Tryd.prog 22 #[.string (In.txt x)] W fun e w' => e = .returned (.tuple #[.string (In.txt (In.sqrtN x.natAbs : Int)), .int .i64 0]) ∧ Below W.heap.size W w' := by
  have h := Root_any (In.txt x) W T
  rw [In.rootS_some (In.num_fit hx) h0] at h
  exact h
theorem Root_n {x : Int} (hx : In.Fit x) (h0 : x < 0) (W : World) (T : TabI W) : Calls Tryd.prog 22 #[.string (In.txt x)] W fun e w' => e = .returned (.tuple #[.string ⟨#[]⟩, .int .i64 30]) ∧ Below W.heap.size W w' := by
  have h := Root_any (In.txt x) W T
  rw [In.rootS_neg (In.num_fit hx) h0] at h
  exact h
theorem Valid_t (x : Int) (W : World) : Calls Tryd.prog 19 #[.string (In.txt x)] W fun e w' => e = .returned (.bool (decide (In.Fit x))) ∧ W = w' := by
  have h := valid_any (In.txt x) W
  rw [In.txt_list, In.valid_txt] at h
  exact h
theorem txt_0 : In.txt 0 = ⟨#[48]⟩ := (lit_txt (s := ⟨#[48]⟩) (by kernel_rfl)).1
theorem txt_1 : In.txt 1 = ⟨#[49]⟩ := (lit_txt (s := ⟨#[49]⟩) (by kernel_rfl)).1
theorem zero_is : ((In.txt 0).toList == ([48] : List UInt8)) = true := by rw [txt_0, ByteArray.toList_eq]; decide
theorem one_is : ((In.txt 1).toList == ([49] : List UInt8)) = true := by rw [txt_1, ByteArray.toList_eq]; decide
theorem num_0 : In.num ⟨#[48]⟩ = some 0 := by kernel_rfl
theorem num_1 : In.num ⟨#[49]⟩ = some 1 := by kernel_rfl
section
variable {x : Int} (hx : In.Fit x)
include hx
theorem Mul_0 (W : World) (T : TabI W) : Calls Tryd.prog 16 #[.string (In.txt x), .string ⟨#[48]⟩] W fun e w' => e = .returned (.tuple #[.string (In.txt 0), .int .i64 0]) ∧ Below W.heap.size W w' := by
  have h := Mul_any (In.txt x) ⟨#[48]⟩ W T
  rw [In.opS_some (In.num_fit hx) num_0] at h
  have e : In.fit ((fun x y => x * y) x 0) = (In.txt 0, 0) := by
    show In.fit (x * 0) = _
    rw [Int.mul_zero]
    exact In.fit_pos (by decide)
  rw [e] at h
  exact h
theorem Mul_1 (W : World) (T : TabI W) : Calls Tryd.prog 16 #[.string (In.txt x), .string ⟨#[49]⟩] W fun e w' => e = .returned (.tuple #[.string (In.txt x), .int .i64 0]) ∧ Below W.heap.size W w' := by
  have h := Mul_any (In.txt x) ⟨#[49]⟩ W T
  rw [In.opS_some (In.num_fit hx) num_1] at h
  have e : In.fit ((fun x y => x * y) x 1) = (In.txt x, 0) := by
    show In.fit (x * 1) = _
    rw [Int.mul_one]
    exact In.fit_pos hx
  rw [e] at h
  exact h
theorem Add_1 (hz : In.Fit (x + 1)) (W : World) (T : TabI W) : Calls Tryd.prog 14 #[.string (In.txt x), .string ⟨#[49]⟩] W fun e w' => e = .returned (.tuple #[.string (In.txt (x + 1)), .int .i64 0]) ∧ Below W.heap.size W w' := by
  have h := Add_any (In.txt x) ⟨#[49]⟩ W T
  rw [In.opS_some (In.num_fit hx) num_1] at h
  have e : In.fit ((fun x y => x + y) x 1) = (In.txt (x + 1), 0) := In.fit_pos hz
  rw [e] at h
  exact h
theorem Sub_0 (W : World) (T : TabI W) : Calls Tryd.prog 15 #[.string ⟨#[48]⟩, .string (In.txt x)] W fun e w' => e = .returned (.tuple #[.string (In.txt (-x)), .int .i64 0]) ∧ Below W.heap.size W w' := by
  have h := Sub_any ⟨#[48]⟩ (In.txt x) W T
  rw [In.opS_some num_0 (In.num_fit hx)] at h
  have e : In.fit ((fun x y => x - y) 0 x) = (In.txt (-x), 0) := by
    show In.fit (0 - x) = _
    rw [Int.zero_sub]
    exact In.fit_pos (by show Int.natAbs (-x) < _; rw [Int.natAbs_neg]; exact hx)
  rw [e] at h
  exact h
theorem Cmp_0 (W : World) : Calls Tryd.prog 17 #[.string (In.txt x), .string ⟨#[48]⟩] W fun e w' => e = .returned (.int .i64 (In.cmpZ x 0)) ∧ Below W.heap.size W w' := by
  have h := Compare_any (In.txt x) ⟨#[48]⟩ W
  rw [In.cmpS_some (In.num_fit hx) num_0] at h
  exact h
end
/-- which texts are 0 and 1 -/
theorem zero_eq (x : Int) : ((In.txt x).toList == ([48] : List UInt8)) = decide (x = 0) := by
  rw [show ([48] : List UInt8) = (In.txt 0).toList by rw [txt_0, ByteArray.toList_eq], Bool.eq_iff_iff]
  simp only [beq_iff_eq, decide_eq_true_eq]
  rw [ByteArray.toList_eq, ByteArray.toList_eq]
  exact ⟨fun h => In.txt_inj (ba_ext h), fun h => by rw [h]⟩
theorem txt_eq (x y : Int) : ((In.txt x).toList == (In.txt y).toList) = decide (x = y) := by
  rw [Bool.eq_iff_iff]
  simp only [beq_iff_eq, decide_eq_true_eq]
  rw [ByteArray.toList_eq, ByteArray.toList_eq]
  exact ⟨fun h => In.txt_inj (ba_ext h), fun h => by rw [h]⟩
end Go.Proofs.YtjhnfejlkljkjaaDoor
