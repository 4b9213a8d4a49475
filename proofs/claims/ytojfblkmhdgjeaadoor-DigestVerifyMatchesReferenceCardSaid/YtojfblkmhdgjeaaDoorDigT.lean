/- The fixed examples, as the kernel computes them. -/
import Derived.Test.YtojfblkmhdgjeaaDoorDigS
namespace Go.Proofs.YtojfblkmhdgjeaaDoor
open Go.RowKit Go.Shelf

def emptyHex : ByteArray := ⟨#[101, 51, 98, 48, 99, 52, 52, 50, 57, 56, 102, 99, 49, 99, 49, 52, 57, 97, 102, 98, 102, 52, 99, 56, 57, 57, 54, 102, 98, 57, 50, 52, 50, 55, 97, 101, 52, 49, 101, 52, 54, 52, 57, 98, 57, 51, 52, 99, 97, 52, 57, 53, 57, 57, 49, 98, 55, 56, 53, 50, 98, 56, 53, 53]⟩
def abcHex : ByteArray := ⟨#[98, 97, 55, 56, 49, 54, 98, 102, 56, 102, 48, 49, 99, 102, 101, 97, 52, 49, 52, 49, 52, 48, 100, 101, 53, 100, 97, 101, 50, 50, 50, 51, 98, 48, 48, 51, 54, 49, 97, 51, 57, 54, 49, 55, 55, 97, 57, 99, 98, 52, 49, 48, 102, 102, 54, 49, 102, 50, 48, 48, 49, 53, 97, 100]⟩
theorem hex_empty : hexL (natBytes (sumS ⟨#[]⟩)) = emptyHex := by kernel_rfl
theorem hex_abc : hexL (natBytes (sumS ⟨#[97, 98, 99]⟩)) = abcHex := by kernel_rfl
abbrev sA : ByteArray := ⟨#[97]⟩
abbrev sB : ByteArray := ⟨#[98]⟩
abbrev sC : ByteArray := ⟨#[99]⟩
abbrev sD : ByteArray := ⟨#[100]⟩
abbrev abcL : List ByteArray := [sA, sB, sC]
theorem exP_len : (proofS abcL 2).length = 1 := by kernel_rfl
theorem exX_len : (extS abcL 1).length = 2 := by kernel_rfl
theorem ex_one : verifyS (rootS abcL) 3 2 sC (proofS abcL 2) = true := proofS_ok (xs := abcL) (i := 2) (x := sC) rfl
theorem ex_two : verifyS (rootS abcL) 3 2 sD (proofS abcL 2) = false := by kernel_rfl
theorem ex_three : verExtS (rootS (abcL.take 1)) 1 (rootS abcL) 3 (extS abcL 1) = true := extS_ok abcL 1 (by decide)
theorem ex_four : verExtS (rootS (abcL.take 2)) 1 (rootS abcL) 3 (extS abcL 1) = false := by kernel_rfl
end Go.Proofs.YtojfblkmhdgjeaaDoor
