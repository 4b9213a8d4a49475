/- Two digits, and the number of decimal digits. -/
import Derived.Test.YtdldokhiefeloaaDoorCalA
namespace Go.Proofs.YtdldokhiefeloaaDoor
open Go.RowKit

theorem run_two_bytes {P : Program} (w : World) (src dst e : TypeId) (b cap : Nat) (x y : Int) (hs : P.underlying src = some (.slice e)) (he : P.underlying e = some (.int .u8)) (hd : P.underlying dst = some .string)
    (hx : 0 ≤ x ∧ x < 256) (hy : 0 ≤ y ∧ y < 256) (h0 : w.cell? ⟨b, 0, none⟩ = some (.int .u8 x)) (h1 : w.cell? ⟨b, 1, none⟩ = some (.int .u8 y)) :
    (convert src dst (.slice (some ⟨b, 0, none⟩) 2 cap)).run P w = .ok (.string ⟨#[UInt8.ofNat x.toNat, UInt8.ofNat y.toNat]⟩) w :=
  run_convert_bytes_back w src dst e ⟨b, 0, none⟩ cap [UInt8.ofNat x.toNat, UInt8.ofNat y.toNat] hs he hd fun j hj => by
    have e : Addr.add ⟨b, 0, none⟩ j = ⟨b, j, none⟩ := by unfold Addr.add; split <;> simp_all
    rw [e]
    match j, hj with
    | 0, _ => rw [h0]; simp; omega
    | 1, _ => rw [h1]; simp; omega

def padS (n : Int) : ByteArray := ⟨#[UInt8.ofNat (48 + n / 10).toNat, UInt8.ofNat (48 + n % 10).toNat]⟩
set_option maxRecDepth 100000 in
set_option maxHeartbeats 400000 in
theorem padded_any (n : Int) (w : World) (h0 : 0 ≤ n) (h1 : n ≤ 99) :
    Calls Tryd.prog 75 #[.int .i64 n] w fun e w' => e = .returned (.string (padS n)) ∧ Below w.heap.size w w' := by
  have q0 : 0 ≤ n / 10 := by omega
  have q1 : n / 10 ≤ 9 := by omega
  have r0 : 0 ≤ n % 10 := by omega
  have r1 : n % 10 ≤ 9 := by omega
  have hcv := (fun (W : World) (b cap : Nat) (c0 : W.cell? ⟨b, 0, none⟩ = some (.int .u8 (48 + n / 10))) (c1 : W.cell? ⟨b, 1, none⟩ = some (.int .u8 (48 + n % 10))) =>
    run_two_bytes (P := Tryd.prog) W 103 9 5 b cap (48 + n / 10) (48 + n % 10) (by kernel_rfl) (by kernel_rfl) (by kernel_rfl) (by omega) (by omega) c0 c1)
  go_enter Tryd.func75, Tryd.ntmps75
  go_wp2
  go_ret
  exact ⟨rfl, (Below.refl _ _).alloc (Nat.le_refl _) _⟩

theorem run_index_at {P : Program} (w : World) (t : TypeId) (s : ByteArray) (k : IntKind) (i : Nat) (h : P.underlying t = some .string) (hi : i < s.size) :
    (Instr.index t (.string s) (.int k (i : Int))).run P w = .ok (.int .u8 (s[i]'hi).toNat) w := by
  rw [run_index_string w t s k i h, dif_pos (by omega)]
  rfl
def digB (c : UInt8) : Bool := decide (48 ≤ c.toNat) && decide (c.toNat ≤ 57)
def dgF (l : List UInt8) : Int := l.foldl (fun n c => wrap64 (wrap64 (10 * n) + ((c.toNat : Int) - 48))) 0
theorem dgF_more (l : List UInt8) (c : UInt8) : dgF (l ++ [c]) = wrap64 (wrap64 (10 * dgF l) + ((c.toNat : Int) - 48)) := by
  unfold dgF
  rw [List.foldl_append]
  rfl
def digitsR (s : ByteArray) : Int × Bool := if s.data.toList.all digB = true then (dgF s.data.toList, true) else (0, false)
theorem take_byte (s : ByteArray) {k : Nat} (h : k < s.size) : s.data.toList.take (k + 1) = s.data.toList.take k ++ [s[k]] := by
  have hl : k < s.data.toList.length := by simpa using h
  rw [List.take_add_one, List.getElem?_eq_getElem hl]
  rfl

set_option maxRecDepth 100000 in
set_option maxHeartbeats 1000000 in
theorem digits_any (s : ByteArray) (w : World) (hs : s.size ≤ maxLen) :
    Calls Tryd.prog 91 #[.string s] w fun e w' => e = .returned (.tuple #[.int .i64 (digitsR s).1, .bool (digitsR s).2]) ∧ w = w' := by
  unfold maxLen at hs
  have bad : ∀ k (hk : k < s.size), digB s[k] = false → digitsR s = (0, false) := fun k hk hb => by
    unfold digitsR
    rw [if_neg]
    intro h
    have := List.all_eq_true.1 h (s[k]) (by show s.data[k] ∈ s.data.toList; simp)
    rw [hb] at this
    cases this
  obtain ⟨V, hV⟩ : ∃ V, V = digitsR s := ⟨_, rfl⟩
  rw [← hV] at bad ⊢
  have HV := Lib.hid hV
  have BAD := Lib.hid bad
  clear bad hV
  go_enter Tryd.func91, Tryd.ntmps91
  go_wp2_with fail
  go_loopw [4, 5, 8] (fun n _ c wr => ∃ k : Nat, k ≤ s.size ∧ n = .int .i64 (dgF (s.data.toList.take k)) ∧ c = .int .i64 k ∧ (s.data.toList.take k).all digB = true ∧ wr = w) (fun _ _ c _ => s.size - (intOf c).toNat)
  case atStart => exact ⟨0, Nat.zero_le _, rfl, rfl, rfl, rfl⟩
  case round =>
    obtain ⟨k, hk, rfl, rfl, hall, rfl⟩ := hrel
    have HA := Lib.hid hall
    clear hall
    by_cases hlt : k < s.size
    · have i1 := fun (w : World) => run_index_at (P := Tryd.prog) w 9 s .i64 k rfl hlt
      obtain ⟨x, ex⟩ : ∃ x, x = s[k] := ⟨_, rfl⟩
      have M := Lib.hid (take_byte s hlt)
      have BB := Lib.hid (BAD.out k hlt)
      rw [← ex] at M BB
      rw [← ex] at i1
      have hx : x.toNat < 256 := x.toNat_lt
      have DM := Lib.hid (dgF_more (s.data.toList.take k) x)
      have DB := Lib.hid (show digB x = (decide (48 ≤ x.toNat) && decide (x.toNat ≤ 57)) from rfl)
      have ML := Lib.hid (show (s.data.toList.take k ++ [x]).all digB = digB x by rw [List.all_append, HA.out]; simp)
      generalize dgF (s.data.toList.take k) = n at *
      generalize x.toNat = m at *
      clear ex
      by_cases g0 : m < 48
      · have R := Lib.hid (BB.out (by rw [DB.out]; simp; omega))
        obtain rfl := R.out
        go_wp2_with fail
        go_ret2
        exact ⟨rfl, rfl⟩
      · by_cases g1 : 57 < m
        · have R := Lib.hid (BB.out (by rw [DB.out]; simp; omega))
          obtain rfl := R.out
          go_wp2_with fail
          go_ret2
          exact ⟨rfl, rfl⟩
        · have A2 := Lib.hid (show (s.data.toList.take (k + 1)).all digB = true by rw [M.out, ML.out, DB.out]; simp; omega)
          have D2 := Lib.hid (show dgF (s.data.toList.take (k + 1)) = wrap64 (wrap64 (10 * n) + ((m : Int) - 48)) by rw [M.out, DM.out])
          clear DB DM M BB BAD ML HV
          go_wp2_with fail
          go_roundw
          case rel => exact ⟨k + 1, by omega, by rw [D2.out], by go_num, A2.out, trivial⟩
          case measure => simp [intOf]; omega
    · obtain rfl : k = s.size := by omega
      have e : s.data.toList.take s.size = s.data.toList := List.take_of_length_le (by simp)
      rw [e] at HA ⊢
      have R : V = (dgF s.data.toList, true) := by rw [HV.out]; unfold digitsR; rw [if_pos HA.out]
      subst R
      clear e BAD HV
      go_wp2_with fail
      go_ret2
      exact ⟨rfl, rfl⟩
end Go.Proofs.YtdldokhiefeloaaDoor
