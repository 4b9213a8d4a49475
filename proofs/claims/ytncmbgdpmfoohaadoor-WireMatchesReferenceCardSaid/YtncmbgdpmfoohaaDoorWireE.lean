/- PutString, and what the statements make their inputs with. -/
import Derived.Test.YtncmbgdpmfoohaaDoorWireD
namespace Go.Proofs.YtncmbgdpmfoohaaDoor
open Go.RowKit

/-- the bytes of an integer, as a string -/
def encS (n : Int) : ByteArray := ⟨(encB (foldZ n)).toArray⟩
/-- what PutString returns -/
def putSR (s : ByteArray) : ByteArray × Int := if 65536 < s.size then (⟨#[]⟩, 10) else (encS s.size ++ s, 0)
def putSV (s : ByteArray) : Value := .tuple #[.string (putSR s).1, .int .i64 (putSR s).2]

theorem put_any (n : Int) (w : World) : Calls Tryd.prog 12 #[.int .i64 n] w fun e w' => e = .returned (putV n) ∧ Below w.heap.size w w' := by
  by_cases h : -4611686018427387903 ≤ n ∧ n ≤ 4611686018427387903
  · exact put_good n w h.1 h.2
  · exact put_bad n w (by omega)

theorem encS_size (n : Nat) (h : n < 9223372036854775807 / 2) : (encS n).size ≤ 9 := by
  have h1 := encB_len 8 (foldZ n) (by
    have e9 : (128 : Nat) ^ (8 + 1) = 9223372036854775808 := by decide
    rw [e9]; unfold foldZ; rw [if_neg (by omega)]; omega)
  show (encB (foldZ n)).toArray.size ≤ 9
  simpa using h1

set_option maxRecDepth 100000 in
set_option maxHeartbeats 400000 in
theorem putString_any (s : ByteArray) (w : World) (hs : s.size ≤ maxLen) :
    Calls Tryd.prog 19 #[.string s] w fun e w' => e = .returned (putSV s) ∧ Below w.heap.size w w' := by
  unfold maxLen at hs
  by_cases h : 65536 < s.size
  · have E := Lib.hid (show putSV s = .tuple #[.string ⟨#[]⟩, .int .i64 10] by unfold putSV putSR; rw [if_pos h])
    rw [E.out]
    go_enter Tryd.func19, Tryd.ntmps19
    go_wp2
    go_ret2
    exact ⟨rfl, Below.refl _ _⟩
  · have E := Lib.hid (show putSV s = .tuple #[.string (encS s.size ++ s), .int .i64 0] by unfold putSV putSR; rw [if_neg h])
    have P := Lib.hid (show putV s.size = .tuple #[.string (encS s.size), .int .i64 0] by unfold putV putR maxI; rw [if_pos (by omega)]; rfl)
    have hz := encS_size s.size (by omega)
    rw [E.out]
    go_enter Tryd.func19, Tryd.ntmps19
    go_wp2_with (go_at_call 12; refine (put_any _ _).mono ?_; rw [P.out]; rintro e w' ⟨rfl, hb⟩; have HB := Lib.hid hb; clear hb)
    go_ret2
    exact ⟨rfl, HB.out⟩
end Go.Proofs.YtncmbgdpmfoohaaDoor
