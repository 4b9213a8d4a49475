/- The reference's Int at any offset, String and PutString. -/
import Derived.Test.YtncmbgdpmfoohaaDoorWireRefC
namespace Go.Proofs.YtncmbgdpmfoohaaDoor
open Go.RowKit

theorem refInt_any (s : ByteArray) (a : Int) (w : World) (hs : s.size ≤ maxLen) (h1 : -9223372036854775808 ≤ a) (h2 : a ≤ 9223372036854775807) :
    Calls Tryd.prog 16 #[.string s, .int .i64 a] w fun e w' => e = .returned (intV (intR s.data.toList a)) ∧ Below w.heap.size w w' := by
  by_cases h : 0 ≤ a ∧ a ≤ s.size
  · obtain ⟨k, rfl⟩ := Int.eq_ofNat_of_zero_le h.1
    exact refInt_in s k w hs (by omega)
  · have e : intR s.data.toList a = (0, 0, 2) := by
      unfold intR
      rw [if_pos (by simp; omega)]
    rw [e]
    unfold maxLen at hs
    by_cases h0 : a < 0
    · go_enter Tryd.func16, Tryd.ntmps16
      go_wp2
      go_ret3
      exact ⟨rfl, Below.refl _ _⟩
    · obtain ⟨k, rfl⟩ := Int.eq_ofNat_of_zero_le (show 0 ≤ a by omega)
      have hk : s.size < k := by omega
      clear h
      go_enter Tryd.func16, Tryd.ntmps16
      go_wp2
      go_ret3
      exact ⟨rfl, Below.refl _ _⟩

set_option maxHeartbeats 1000000 in
theorem refString_any (s : ByteArray) (a : Int) (w : World) (hs : s.size ≤ maxLen) (h1 : -9223372036854775808 ≤ a) (h2 : a ≤ 9223372036854775807) :
    Calls Tryd.prog 18 #[.string s, .int .i64 a] w fun e w' => e = .returned (strV (strR s a)) ∧ Below w.heap.size w w' := by
  have C := refInt_any s a w hs h1 h2
  have HR := Lib.hid (show strR s a = _ from rfl)
  conv at HR => arg 1; rhs; unfold strR
  rcases intR_err s.data.toList a with h | h | h
  · rcases hr : intR s.data.toList a with ⟨n, x, e⟩
    rw [hr] at C h
    obtain rfl : e = 0 := h
    obtain ⟨g1, g2, g3, g4, g5⟩ := intR_ok hr
    obtain ⟨x, rfl⟩ := Int.eq_ofNat_of_zero_le (show 0 ≤ x by omega)
    have g6 : x ≤ s.size := by simpa using g3
    unfold maxI at g4 g5
    have C' := Lib.hid C
    rw [hr] at HR
    unfold maxLen at hs
    clear C hr g1 g2 g3 h1 h2
    by_cases c1 : n < 0
    · have RR := HR.out
      rw [if_neg (by simp), if_pos (Or.inl c1)] at RR
      have R := Lib.hid RR
      clear HR RR
      go_enter Tryd.func18, Tryd.ntmps18
      go_wp2_with (go_at_call 16; refine C'.out.mono ?_; simp only [intV]; rintro e w' ⟨rfl, hb⟩; have HBB := Lib.hid hb; clear hb)
      go_ret3
      exact ⟨retv (by rw [R.out]; rfl), HBB.out⟩
    · obtain ⟨n, rfl⟩ := Int.eq_ofNat_of_zero_le (show 0 ≤ n by omega)
      by_cases c2 : 65536 < n
      · have RR := HR.out
        rw [if_neg (by simp), if_pos (Or.inr (Or.inl (by simp; omega)))] at RR
        have R := Lib.hid RR
        clear HR RR c1
        go_enter Tryd.func18, Tryd.ntmps18
        go_wp2_with (go_at_call 16; refine C'.out.mono ?_; simp only [intV]; rintro e w' ⟨rfl, hb⟩; have HBB := Lib.hid hb; clear hb)
        go_ret3
        exact ⟨retv (by rw [R.out]; rfl), HBB.out⟩
      · by_cases c3 : s.size < x + n
        · have RR := HR.out
          rw [if_neg (by simp), if_pos (Or.inr (Or.inr (by simp; omega)))] at RR
          have R := Lib.hid RR
          have c4 : (s.size : Int) - (x : Int) < (n : Int) := by omega
          clear HR RR c1
          go_enter Tryd.func18, Tryd.ntmps18
          go_wp2_with (go_at_call 16; refine C'.out.mono ?_; simp only [intV]; rintro e w' ⟨rfl, hb⟩; have HBB := Lib.hid hb; clear hb)
          go_ret3
          exact ⟨retv (by rw [R.out]; rfl), HBB.out⟩
        · have RR := HR.out
          rw [if_neg (by simp), if_neg (by simp; omega)] at RR
          have R := Lib.hid RR
          have c4 : ¬ (s.size : Int) - (x : Int) < (n : Int) := by omega
          clear HR RR c1
          go_enter Tryd.func18, Tryd.ntmps18
          go_wp2_with (go_at_call 16; refine C'.out.mono ?_; simp only [intV]; rintro e w' ⟨rfl, hb⟩; have HBB := Lib.hid hb; clear hb)
          go_ret3
          exact ⟨retv (by rw [R.out]; rfl), HBB.out⟩
  all_goals
    rw [h] at C
    have RR := HR.out
    rw [h, if_pos (by simp)] at RR
    have C' := Lib.hid C
    have R := Lib.hid RR
    clear C h HR RR
    go_enter Tryd.func18, Tryd.ntmps18
    go_wp2_with (go_at_call 16; refine C'.out.mono ?_; simp only [intV]; rintro e w' ⟨rfl, hb⟩; have HBB := Lib.hid hb; clear hb)
    go_ret3
    exact ⟨retv (by rw [R.out]; rfl), HBB.out⟩
set_option maxRecDepth 100000 in
set_option maxHeartbeats 400000 in
theorem refPutString_any (s : ByteArray) (w : World) (hs : s.size ≤ maxLen) :
    Calls Tryd.prog 20 #[.string s] w fun e w' => e = .returned (putSV s) ∧ Below w.heap.size w w' := by
  unfold maxLen at hs
  by_cases h : 65536 < s.size
  · have E := Lib.hid (show putSV s = .tuple #[.string ⟨#[]⟩, .int .i64 10] by unfold putSV putSR; rw [if_pos h])
    rw [E.out]
    go_enter Tryd.func20, Tryd.ntmps20
    go_wp2
    go_ret2
    exact ⟨rfl, Below.refl _ _⟩
  · have E := Lib.hid (show putSV s = .tuple #[.string (encS s.size ++ s), .int .i64 0] by unfold putSV putSR; rw [if_neg h])
    have P := Lib.hid (show putV s.size = .tuple #[.string (encS s.size), .int .i64 0] by unfold putV putR maxI; rw [if_pos (by omega)]; rfl)
    have hz := encS_size s.size (by omega)
    rw [E.out]
    go_enter Tryd.func20, Tryd.ntmps20
    go_wp2_with (go_at_call 13; refine (refPut_any _ _).mono ?_; rw [P.out]; rintro e w' ⟨rfl, hb⟩; have HB := Lib.hid hb; clear hb)
    go_ret2
    exact ⟨rfl, HB.out⟩
end Go.Proofs.YtncmbgdpmfoohaaDoor
