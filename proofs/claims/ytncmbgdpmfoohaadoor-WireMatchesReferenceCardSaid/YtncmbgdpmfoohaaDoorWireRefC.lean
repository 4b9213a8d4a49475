/- The reference's Int, String and PutString. -/
import Derived.Test.YtncmbgdpmfoohaaDoorWireRefB
import Derived.Test.YtncmbgdpmfoohaaDoorWireUniq
namespace Go.Proofs.YtncmbgdpmfoohaaDoor
open Go.RowKit

theorem ref_key {s : ByteArray} {a k : Nat} {n : Int} (ha : a + k < s.size) (hI : intR s.data.toList a = (0, 0, 10) ∨ intR s.data.toList a = (n, ((a + (k + 1) : Nat) : Int), 0)) (h1 : -maxI ≤ n) (h2 : n ≤ maxI) :
    (s.extract a (a + (k + 1)) = encS n → intR s.data.toList a = (n, ((a + (k + 1) : Nat) : Int), 0)) ∧ (s.extract a (a + (k + 1)) ≠ encS n → intR s.data.toList a = (0, 0, 10)) := by
  constructor
  · intro h
    have h3 := trip_int h1 h2 (s.extract 0 a) (s.extract (a + (k + 1)) s.size)
    rw [← h, show s.extract 0 a ++ s.extract a (a + (k + 1)) ++ s.extract (a + (k + 1)) s.size = s by
      apply ByteArray.ext
      apply Array.ext'
      rw [toList_append, toList_append, extract_list, extract_list, extract_list, Nat.sub_zero, List.drop_zero, show s.data.toList.take a ++ (s.data.toList.drop a).take (a + (k + 1) - a) = s.data.toList.take (a + (k + 1)) by
        rw [show a + (k + 1) - a = k + 1 by omega, ← List.take_add]]
      rw [List.take_of_length_le (l := s.data.toList.drop _) (by simp), List.take_append_drop], show (s.extract 0 a).size = a by rw [ByteArray.size_extract]; omega] at h3
    rw [h3, show (s.extract a (a + (k + 1))).size = k + 1 by rw [ByteArray.size_extract]; omega]
    rfl
  · intro h
    rcases hI with hI | hI
    · exact hI
    · exfalso
      rcases int_exact s (show a ≤ s.size by omega) with h3 | ⟨n', x, h3, _, _, _, _, h4⟩
      · rw [hI] at h3
        simp at h3
      · rw [hI] at h3
        simp only [Prod.mk.injEq, and_true] at h3
        obtain ⟨rfl, h5⟩ := h3
        have h6 : x = a + (k + 1) := by omega
        subst h6
        exact h h4
theorem shl_word {c k : Nat} (hk : k ≤ 8) : IntKind.u64.wrap ((c : Int) % 128 * 2 ^ (7 * k)) = ((c % 128 * 128 ^ k : Nat) : Int) := by
  have h1 : (128 : Nat) ^ k ≤ 128 ^ 8 := Nat.pow_le_pow_right (by decide) hk
  have h2 : c % 128 * 128 ^ k ≤ 127 * 128 ^ 8 := Nat.mul_le_mul (by omega) h1
  have h3 : ((c : Int) % 128 * 2 ^ (7 * k)) = ((c % 128 * 128 ^ k : Nat) : Int) := by
    rw [← pow7 k]
    simp
  rw [h3]
  have h4 : (127 : Nat) * 128 ^ 8 = 9151314442816847872 := by decide
  generalize c % 128 * 128 ^ k = x at *
  simp [IntKind.wrap, IntKind.bits, IntKind.signed]
  omega

set_option maxRecDepth 100000 in
set_option maxHeartbeats 2000000 in
theorem refInt_in (s : ByteArray) (a : Nat) (w : World) (hs : s.size ≤ maxLen) (ha : a ≤ s.size) :
    Calls Tryd.prog 16 #[.string s, .int .i64 a] w fun e w' => e = .returned (intV (intR s.data.toList a)) ∧ Below w.heap.size w w' := by
  have hR : intR s.data.toList a = match dec (s.data.toList.drop a) 0 0 with
    | some (n, k) => (n, (a : Int) + k, 0)
    | none => (0, 0, 10) := by
    unfold intR
    rw [if_neg (by simp; omega)]
    rfl
  have HR := Lib.hid hR
  clear hR
  unfold maxLen at hs
  have hd1 : decide ((a : Int) < 0) = false := by simp
  have hd2 : decide (s.size < a) = false := by simp; omega
  go_enter Tryd.func16, Tryd.ntmps16
  go_wp2
  go_loop [7, 8] (fun z i => ∃ k Z : Nat, k ≤ 9 ∧ a + k ≤ s.size ∧ i = .int .i64 k ∧ Z < 128 ^ k ∧ dec (s.data.toList.drop a) 0 0 = dec (s.data.toList.drop (a + k)) k Z ∧ z = .int .u64 Z) (fun _ i => 9 - (intOf i).toNat)
  case atStart => exact ⟨0, 0, by omega, by omega, rfl, by decide, rfl, rfl⟩
  case round =>
    obtain ⟨k, Z, hk, hak, rfl, hZ, hD, rfl⟩ := hrel
    have HD := Lib.hid hD
    clear hD
    by_cases h9 : k < 9
    · by_cases hlt : a + k < s.size
      · obtain ⟨_, o2, o3⟩ := or64 (c := s[a + k].toNat) (show k ≤ 8 by omega) hZ
        have o1 := shl_word (c := s[a + k].toNat) (show k ≤ 8 by omega)
        have hdr : s.data.toList.drop (a + k) = s[a + k] :: s.data.toList.drop (a + (k + 1)) := by
          rw [List.drop_eq_getElem_cons (by simpa using hlt)]; rfl
        have E := HD.out
        rw [hdr, dec, if_neg (by omega)] at E
        clear HD
        have H2 := Lib.hid o2
        have HZ := Lib.hid hZ
        clear hZ o2 hdr
        have hb1 := s[a + k].toNat_lt
        have hq1 : ((k : Int) < 9) := by omega
        have hq2 : ((a : Int) + k < s.size) := by omega
        by_cases hc : 128 ≤ s[a + k].toNat
        · rw [if_pos hc] at E
          have HE := Lib.hid E
          clear E
          generalize s[a + k].toNat % 128 * 128 ^ k = Y at *
          go_wp2
          go_round
          case rel => exact ⟨k + 1, Z + Y, by omega, by omega, by go_num, H2.out, HE.out, vint (by omega)⟩
          case measure => simp [intOf]; omega
        · rw [if_neg hc] at E
          have hI : intR s.data.toList a = (0, 0, 10) ∨ intR s.data.toList a = (unZ (Z + s[a + k].toNat % 128 * 128 ^ k), ((a + (k + 1) : Nat) : Int), 0) := by
            rw [HR.out, E]
            split
            · rename_i h
              split at h
              · cases h
              · right
                simp only [Option.some.injEq, Prod.mk.injEq] at h
                obtain ⟨rfl, rfl⟩ := h
                simp
            · exact .inl rfl
          have H9 := H2.out
          have h128 : (128 : Nat) ^ (k + 1) ≤ 128 ^ 9 := Nat.pow_le_pow_right (by decide) (by omega)
          have e128 : (128 : Nat) ^ 9 = 9223372036854775808 := by decide
          generalize s[a + k].toNat % 128 * 128 ^ k = Y at *
          clear E
          obtain ⟨N, hN⟩ : ∃ N, N = unZ (Z + Y) := ⟨_, rfl⟩
          rw [← hN] at hI
          have hu : N ≤ maxI := by rw [hN]; unfold unZ maxI; split <;> omega
          have HI := Lib.hid hI
          have HU := Lib.hid hu
          clear hI hu h128 e128 H9
          by_cases hp : ((Z + Y : Nat) : Int) % 2 = 1
          · have hM : N = -(((Z : Int) + Y) / 2) - 1 := by rw [hN]; unfold unZ; rw [if_pos hp]; omega
            have hodd : (((Z : Int) + Y) % 2 == 1) = true := by simp; omega
            subst hM
            clear hN hp
            go_wp2_with fail
            by_cases hr : -maxI ≤ -(((Z : Int) + Y) / 2) - 1
            · obtain ⟨k1, k2⟩ := ref_key hlt HI.out hr HU.out
              obtain ⟨eS, hS⟩ : ∃ b, b = encS (-(((Z : Int) + Y) / 2) - 1) := ⟨_, rfl⟩
              have CP := Lib.hid (fun w => put_v (putV_ok hr HU.out) (refPut_any (-(((Z : Int) + Y) / 2) - 1) w))
              rw [← hS] at CP k1 k2
              refine (CP.out _).mono ?_
              rintro e w2 ⟨rfl, hb⟩
              have HBB := Lib.hid hb
              have K1 := Lib.hid k1
              have K2 := Lib.hid k2
              clear k1 k2 hS CP HI HU hr hb
              by_cases heq : s.extract a (a + (k + 1)) = eS
              · have HV := Lib.hid (K1.out heq)
                have hx : s.extract a (a + k + 1) = eS := heq
                clear heq K1 K2
                go_wp2_with fail
                go_ret3
                exact ⟨retv (by rw [HV.out]; rfl), HBB.out⟩
              · have HV := Lib.hid (K2.out heq)
                have hx : (eS.toList == (s.extract a (a + k + 1)).toList) = false := bytes_ne (fun h => heq h.symm)
                clear heq K1 K2
                go_wp2_with fail
                go_ret3
                exact ⟨retv (by rw [HV.out]; rfl), HBB.out⟩
            · have CP := Lib.hid (fun w => put_v (show putV (-(((Z : Int) + Y) / 2) - 1) = .tuple #[.string ⟨#[]⟩, .int .i64 10] by unfold putV putR; rw [if_neg (fun h => hr h.1)]) (refPut_any (-(((Z : Int) + Y) / 2) - 1) w))
              have HV := Lib.hid (show intR s.data.toList a = (0, 0, 10) from HI.out.resolve_right (fun h => hr (intR_ok h).2.2.2.1))
              refine (CP.out _).mono ?_
              rintro e w2 ⟨rfl, hb⟩
              have HBB := Lib.hid hb
              clear CP HI HU hr hb
              go_wp2_with fail
              go_ret3
              exact ⟨retv (by rw [HV.out]; rfl), HBB.out⟩
          · have hM : N = ((Z : Int) + Y) / 2 := by rw [hN]; unfold unZ; rw [if_neg hp]; omega
            have hodd : (((Z : Int) + Y) % 2 == 1) = false := by simp; omega
            subst hM
            clear hN hp
            go_wp2_with fail
            by_cases hr : -maxI ≤ ((Z : Int) + Y) / 2
            · obtain ⟨k1, k2⟩ := ref_key hlt HI.out hr HU.out
              obtain ⟨eS, hS⟩ : ∃ b, b = encS (((Z : Int) + Y) / 2) := ⟨_, rfl⟩
              have CP := Lib.hid (fun w => put_v (putV_ok hr HU.out) (refPut_any (((Z : Int) + Y) / 2) w))
              rw [← hS] at CP k1 k2
              refine (CP.out _).mono ?_
              rintro e w2 ⟨rfl, hb⟩
              have HBB := Lib.hid hb
              have K1 := Lib.hid k1
              have K2 := Lib.hid k2
              clear k1 k2 hS CP HI HU hr hb
              by_cases heq : s.extract a (a + (k + 1)) = eS
              · have HV := Lib.hid (K1.out heq)
                have hx : s.extract a (a + k + 1) = eS := heq
                clear heq K1 K2
                go_wp2_with fail
                go_ret3
                exact ⟨retv (by rw [HV.out]; rfl), HBB.out⟩
              · have HV := Lib.hid (K2.out heq)
                have hx : (eS.toList == (s.extract a (a + k + 1)).toList) = false := bytes_ne (fun h => heq h.symm)
                clear heq K1 K2
                go_wp2_with fail
                go_ret3
                exact ⟨retv (by rw [HV.out]; rfl), HBB.out⟩
            · have CP := Lib.hid (fun w => put_v (show putV (((Z : Int) + Y) / 2) = .tuple #[.string ⟨#[]⟩, .int .i64 10] by unfold putV putR; rw [if_neg (fun h => hr h.1)]) (refPut_any (((Z : Int) + Y) / 2) w))
              have HV := Lib.hid (show intR s.data.toList a = (0, 0, 10) from HI.out.resolve_right (fun h => hr (intR_ok h).2.2.2.1))
              refine (CP.out _).mono ?_
              rintro e w2 ⟨rfl, hb⟩
              have HBB := Lib.hid hb
              clear CP HI HU hr hb
              go_wp2_with fail
              go_ret3
              exact ⟨retv (by rw [HV.out]; rfl), HBB.out⟩
      · have HV := Lib.hid (show intR s.data.toList a = (0, 0, 10) by
          rw [HR.out, HD.out, List.drop_eq_nil_of_le (by simp; omega)]
          rfl)
        have q1 : ((k : Int) < 9) := by omega
        have q2 : decide ((a : Int) + k < s.size) = false := by rw [decide_eq_false_iff_not]; omega
        clear HD HR
        go_wp2
        go_ret3
        exact ⟨retv (by rw [HV.out]; rfl), Below.refl _ _⟩
    · have HV := Lib.hid (show intR s.data.toList a = (0, 0, 10) by
        rw [HR.out, HD.out]
        cases s.data.toList.drop (a + k) with
        | nil => rfl
        | cons b l => rw [dec, if_pos (by omega)])
      have q1 : decide ((k : Int) < 9) = false := by rw [decide_eq_false_iff_not]; omega
      clear HD HR
      go_wp2
      go_ret3
      exact ⟨retv (by rw [HV.out]; rfl), Below.refl _ _⟩
end Go.Proofs.YtncmbgdpmfoohaaDoor
