/- The reference's PutInt. -/
import Derived.Test.YtncmbgdpmfoohaaDoorWireRefA
import Derived.Test.YtncmbgdpmfoohaaDoorWireE
import Derived.Laws.AppendOwn
import Derived.OwnWalk
namespace Go.Proofs.YtncmbgdpmfoohaaDoor
open Go.RowKit

theorem own_block {W : World} {b k : Nat} {e : TypeId} {size : Nat} {v : Value} {xs : List Value} (h : W.ownsRow b e size v k xs) : ∀ j, v.ownBlock = some j → b ≤ j := by
  intro j hj
  rcases h.2 with ⟨rfl, _⟩ | ⟨g, cap, cur, rfl, hgb, _⟩
  · cases hj
  · simp [Value.ownBlock] at hj
    omega
theorem own_snoc {W : World} {b : Nat} {e : TypeId} {v u : Value} {pre : List UInt8} {x : UInt8} (h : W.ownsRow b e 1 v (pre.length + 1) (pre.map byteV ++ [u])) (hu : u = byteV x) : W.ownsRow b e 1 v (pre ++ [x]).length ((pre ++ [x]).map byteV) := by
  subst hu
  simpa using h

set_option maxHeartbeats 400000 in
theorem refPut_bad (n : Int) (w : World) (h : n < -4611686018427387903 ∨ 4611686018427387903 < n) :
    Calls Tryd.prog 13 #[.int .i64 n] w fun e w' => e = .returned (putV n) ∧ Below w.heap.size w w' := by
  have E := Lib.hid (show putV n = .tuple #[.string ⟨#[]⟩, .int .i64 10] by unfold putV putR maxI; rw [if_neg (by omega)])
  rw [E.out]
  rcases h with h | h
  · go_enter Tryd.func13, Tryd.ntmps13
    go_wp2
    go_ret2
    exact ⟨rfl, Below.refl _ _⟩
  · have h' : ¬ n < -4611686018427387903 := by omega
    go_enter Tryd.func13, Tryd.ntmps13
    go_wp2
    go_ret2
    exact ⟨rfl, Below.refl _ _⟩

set_option maxRecDepth 100000 in
set_option maxHeartbeats 2000000 in
theorem refPut_good (n : Int) (w : World) (h1 : -4611686018427387903 ≤ n) (h2 : n ≤ 4611686018427387903) :
    Calls Tryd.prog 13 #[.int .i64 n] w fun e w' => e = .returned (putV n) ∧ Below w.heap.size w w' := by
  have E := Lib.hid (show putV n = .tuple #[.string ⟨(encB (foldZ n)).toArray⟩, .int .i64 0] by unfold putV putR maxI; rw [if_pos (by omega)])
  have hz := foldZ_bd (n := n) (by unfold maxI; omega) (by unfold maxI; omega)
  obtain ⟨i0, hi, hz0, hz1, hz2⟩ := info_parts infoByte
  rw [E.out]
  have hd1 : decide (n < -4611686018427387903) = false := by simp; omega
  have hd2 : decide (4611686018427387903 < n) = false := by simp; omega
  have e9 : (128 : Nat) ^ (8 + 1) = 9223372036854775808 := by decide
  have hlen : (encB (foldZ n)).length ≤ 9 := encB_len 8 _ (by omega)
  have HL := Lib.hid hlen
  clear e9 hlen
  go_enter Tryd.func13, Tryd.ntmps13
  go_wp2_with (go_at_call 25; refine (refZig_any n _ h1 h2).mono ?_; rintro e w' ⟨rfl, rfl⟩)
  go_loopw [4, 5] (fun z v wr => ∃ (Z : Nat) (pre : List UInt8), Z < 9223372036854775807 ∧ z = .int .u64 Z ∧ pre ++ encB Z = encB (foldZ n) ∧ wr.ownsRow w.heap.size 5 1 v pre.length (pre.map byteV) ∧ Below w.heap.size w wr) (fun z _ _ => (intOf z).toNat)
  case atStart => exact ⟨foldZ n, [], hz, rfl, rfl, World.ownsRow_nil _ _ _ _, Below.refl _ _⟩
  case round =>
    obtain ⟨Z, pre, hZ, rfl, hp, hrow, hB⟩ := hrel
    have hpl : pre.length ≤ 8 := by
      have h3 := HL.out
      rw [← hp, List.length_append] at h3
      have h4 := List.length_pos_iff.2 (encB_ne Z)
      omega
    have HB := Lib.hid hB
    have hbs := hB.size
    have HP := Lib.hid hp
    clear hB hp
    have hob := own_block hrow
    by_cases hc : Z < 128
    · have HX := Lib.hid (show Value.int .u8 (Z : Int) = byteV (UInt8.ofNat Z) from vint (by rw [byte_of (by omega)]))
      have hfin := HP.out
      rw [encB_lt hc] at hfin
      have HF := Lib.hid hfin
      have hcu : ¬ 128 ≤ Z := by omega
      clear hfin
      go_wp2_with (at_builtin; refine wpList_append_own _ rfl _ _ 38 rfl w.heap.size 5 i0 (.int .u8 0) 1 1 Tryd.underlying38 hi hz0 hz1 hz2 rfl (by decide) _ _ _ rfl (hrow.alloc _) ⟨wr.heap.size, 0, none⟩ 1 1 [_] rfl rfl (cell_one_new _ _ _) (by simp [Value.oneCell']) (by unfold maxLen; omega) (by omega) (by simp; omega) ?_; intro v' w1 hown' hgrow _; have hrow2 := own_snoc hown' HX.out; obtain ⟨g', cap', rfl⟩ := ownsRow_succ hown'; have hconv := run_convert_bytes_back (P := Tryd.prog) w1 38 9 5 ⟨g', 0, none⟩ cap' (pre ++ [UInt8.ofNat Z]) Tryd.underlying38 Tryd.underlying5 Tryd.underlying9 (ownsRow_bytes hrow2); rw [List.length_append, HF.out, List.length_singleton] at hconv; have HG := Lib.hid (show Below w.heap.size w w1 from (HB.out.alloc hbs _).grown hgrow (by simp; omega) hob); clear hrow2 hown' hgrow)
      go_ret2
      exact ⟨rfl, HG.out⟩
    · have HX := Lib.hid (show Value.int .u8 ((Z : Int) % 128 + 128) = byteV (UInt8.ofNat (Z % 128 + 128)) from vint (by rw [byte_of (by omega)]; omega))
      go_wp2_with (at_builtin; refine wpList_append_own _ rfl _ _ 38 rfl w.heap.size 5 i0 (.int .u8 0) 1 1 Tryd.underlying38 hi hz0 hz1 hz2 rfl (by decide) _ _ _ rfl (hrow.alloc _) ⟨wr.heap.size, 0, none⟩ 1 1 [_] rfl rfl (cell_one_new _ _ _) (by simp [Value.oneCell']) (by unfold maxLen; omega) (by omega) (by simp; omega) ?_; intro v' w1 hown' hgrow _)
      refine ⟨⟨Z / 128, pre ++ [UInt8.ofNat (Z % 128 + 128)], by omega, vint (by omega), ?_, own_snoc hown' HX.out, (HB.out.alloc hbs _).grown hgrow (by simp; omega) hob⟩, by simp [intOf]; omega⟩
      rw [← HP.out, encB_ge hc]
      simp
theorem refPut_any (n : Int) (w : World) : Calls Tryd.prog 13 #[.int .i64 n] w fun e w' => e = .returned (putV n) ∧ Below w.heap.size w w' := by
  by_cases h : -4611686018427387903 ≤ n ∧ n ≤ 4611686018427387903
  · exact refPut_good n w h.1 h.2
  · exact refPut_bad n w (by omega)
end Go.Proofs.YtncmbgdpmfoohaaDoor
