/- Long: a fraction of up to 100 digits. -/
import Derived.Test.YtlehjmanlccncaaGreatDoorRatLo
set_option linter.unusedVariables false
set_option linter.unusedSimpArgs false
namespace Go.Proofs.YtlehjmanlccncaaGreatDoor
open Go.RowKit

theorem run_one_byteL {P : Program} (w : World) (src dst e : TypeId) (b cap : Nat) (x : Int) (hs : P.underlying src = some (.slice e)) (he : P.underlying e = some (.int .u8)) (hd : P.underlying dst = some .string) (hx : 0 ≤ x ∧ x < 256)
    (h : w.cell? ⟨b, 0, none⟩ = some (.int .u8 x)) : (convert src dst (.slice (some ⟨b, 0, none⟩) 1 cap)).run P w = .ok (.string ⟨#[UInt8.ofNat x.toNat]⟩) w :=
  run_convert_bytes_back w src dst e ⟨b, 0, none⟩ cap [UInt8.ofNat x.toNat] hs he hd fun j hj => by
    obtain rfl : j = 0 := by simpa using hj
    have e : Addr.add ⟨b, 0, none⟩ 0 = ⟨b, 0, none⟩ := by unfold Addr.add; split <;> simp_all
    rw [e, h]
    simp
    omega
theorem dt_seven : DT ⟨#[55]⟩ := ⟨7, by kernel_rfl, by decide⟩
set_option maxRecDepth 100000 in
set_option maxHeartbeats 8000000 in
theorem Long_any (x0 x1 x2 x3 : Int) (w : World) (h0 : -9223372036854775808 ≤ x0 ∧ x0 ≤ 9223372036854775807) (h1 : -9223372036854775808 ≤ x1 ∧ x1 ≤ 9223372036854775807) (h2 : -9223372036854775808 ≤ x2 ∧ x2 ≤ 9223372036854775807) (h3 : -9223372036854775808 ≤ x3 ∧ x3 ≤ 9223372036854775807) :
    Calls Tryz.prog 13 #[.agg #[.int .i64 x0, .int .i64 x1, .int .i64 x2, .int .i64 x3]] w fun e w' => ∃ p : Int × Int, e = .returned (ratV (Ra.tx (some p))) ∧ Ra.Ok p ∧ p.1.natAbs < 10 ^ 100 ∧ p.2.natAbs < 10 ^ 100 ∧ Below w.heap.size w w' := by
  obtain ⟨N1, en1, hn1⟩ := pick_nat x1 (n := 100) (by decide)
  obtain ⟨N3, en3, hn3⟩ := pick_nat x3 (n := 100) (by decide)
  have PN1 := Lib.hid (fun W => rpick_r x1 100 W (by decide) h1.1 h1.2)
  have PN3 := Lib.hid (fun W => rpick_r x3 100 W (by decide) h3.1 h3.2)
  rw [show pickZ x1 100 = (N1 : Int) from en1] at PN1
  rw [show pickZ x3 100 = (N3 : Int) from en3] at PN3
  have kc0 := pick_in x0 (n := 1000000007) (by decide)
  have kc2 := pick_in x2 (n := 1000000007) (by decide)
  have ks := pick_in x0 (n := 2) (by decide)
  have PC0 := Lib.hid (fun W => rpick_r x0 1000000007 W (by decide) h0.1 h0.2)
  have PC2 := Lib.hid (fun W => rpick_r x2 1000000007 W (by decide) h2.1 h2.2)
  have PS := Lib.hid (fun W => rpick_r x0 2 W (by decide) h0.1 h0.2)
  generalize pickZ x0 1000000007 = C0 at *
  generalize pickZ x2 1000000007 = C2 at *
  generalize pickZ x0 2 = S0 at *
  have HKS := Lib.hid ks
  clear en1 en3 h0 h1 h2 h3 ks
  go_enter Tryz.func13, Tryz.ntmps13
  go_upto_region 2 with (fail)
  refine wp_named fun w1 hw => ?_
  obtain ⟨b0, hb0⟩ : ∃ x, x = w.heap.size := ⟨_, rfl⟩
  obtain ⟨b2, hb2⟩ : ∃ x, x = w.heap.size + 1 := ⟨_, rfl⟩
  obtain ⟨b3, hb3⟩ : ∃ x, x = w.heap.size + 1 + 1 := ⟨_, rfl⟩
  have R1 : Row w1 b0 24 [.int .i64 x0, .int .i64 x1, .int .i64 x2, .int .i64 x3] ∧ Row w1 b2 23 [.string ⟨#[]⟩, .string ⟨#[]⟩] ∧ Row w1 b3 64 [.string ⟨#[]⟩, .string ⟨#[]⟩] ∧ Below w.heap.size w w1 := by
    rw [hw, hb0, hb2, hb3]
    have hA := Row.new w 24 [.int .i64 x0, .int .i64 x1, .int .i64 x2, .int .i64 x3]
    have hB := Row.new (w.alloc (.cells #[.int .i64 x0, .int .i64 x1, .int .i64 x2, .int .i64 x3] 24)) 23 [.string ⟨#[]⟩, .string ⟨#[]⟩]
    have hC := Row.new ((w.alloc (.cells #[.int .i64 x0, .int .i64 x1, .int .i64 x2, .int .i64 x3] 24)).alloc (.cells #[.string ⟨#[]⟩, .string ⟨#[]⟩] 23)) 64 [.string ⟨#[]⟩, .string ⟨#[]⟩]
    rw [World.size_alloc] at hB
    rw [World.size_alloc, World.size_alloc] at hC
    exact ⟨(hA.alloc _).alloc _, hB.alloc _, hC, (((Below.refl _ _).alloc (Nat.le_refl _) _).alloc (by simp) _).alloc (by simp; omega) _⟩
  rw [← hb3, ← hb2, ← hb0]
  have HL := Lib.hid (show w.heap.size ≤ b2 ∧ w.heap.size ≤ b3 ∧ b0 ≠ b3 ∧ b2 ≠ b3 by omega)
  have HR := Lib.hid R1
  clear hw R1 hb0 hb2 hb3
  go_wp2_with fail
  go_loopw [4] (fun kv wr => ∃ k : Nat, k ≤ 2 ∧ kv = .int .i64 k ∧ ∃ s0 s1, (1 ≤ k → DT s0) ∧ (2 ≤ k → DT s1) ∧ Row wr b0 24 [.int .i64 x0, .int .i64 x1, .int .i64 x2, .int .i64 x3] ∧ Row wr b2 23 [.string ⟨#[]⟩, .string ⟨#[]⟩] ∧ Row wr b3 64 [.string s0, .string s1] ∧ Below w.heap.size w wr) (fun kv _ => 2 - (intOf kv).toNat)
  case atStart => exact ⟨0, by omega, rfl, _, _, fun h => by omega, fun h => by omega, HR.out.1, HR.out.2.1, HR.out.2.2.1, HR.out.2.2.2⟩
  case round =>
    obtain ⟨k, hk, rfl, s0, s1, hd0, hd1, rA, rZ, rO, hB⟩ := hrel
    rename World => wo
    have A := Lib.hid rA
    have Z := Lib.hid rZ
    have O := Lib.hid rO
    have BB := Lib.hid hB
    have D0 := Lib.hid hd0
    have D1 := Lib.hid hd1
    clear rA rZ rO hB hd0 hd1 HR
    have hk3 : k = 0 ∨ k = 1 ∨ k = 2 := by omega
    rcases hk3 with rfl | rfl | rfl
    · have c0 := (A.out.cell 0).trans (show _ = some (Value.int .i64 _) from rfl)
      have c1 := (A.out.cell 1).trans (show _ = some (Value.int .i64 _) from rfl)
      have lA := A.out.lt
      go_wp2_with fail
      with_reducible refine Calls.mono (PN1.out _) ?_
      rintro e w' ⟨rfl, rfl⟩
      go_wp2_with fail
      with_reducible refine Calls.mono (PC0.out _) ?_
      rintro e w' ⟨rfl, rfl⟩
      go_wp2_with fail
      clear c0 c1 lA
      go_loopw [6, 7] (fun sv cv wx => ∃ (s : ByteArray) (c : Int), sv = .string s ∧ cv = .int .i64 c ∧ s.size ≤ N1 + 1 ∧ DigT s ∧ 0 ≤ c ∧ c < 2147483647 ∧ Below wo.heap.size wo wx) (fun sv _ _ => N1 + 1 - strLen sv)
      case atStart => exact ⟨_, _, rfl, rfl, Nat.zero_le _, digs_nil, kc0.1, by omega, Below.refl _ _⟩
      case round =>
        obtain ⟨s, c, rfl, rfl, hs, hd, hc0, hc1, hB⟩ := hrel
        have HD := Lib.hid hd
        have HB := Lib.hid hB
        clear hd hB
        by_cases hlt : s.size < N1 + 1
        · have q0 : 0 ≤ (c * 48271 + 11) % 2147483647 := by omega
          have q1 : (c * 48271 + 11) % 2147483647 < 2147483647 := by omega
          have r0 : 0 ≤ (c * 48271 + 11) % 2147483647 / 65536 % 10 ∧ (c * 48271 + 11) % 2147483647 / 65536 % 10 ≤ 9 := by omega
          have hcv := (fun (W : World) (b cap : Nat) (c0 : W.cell? ⟨b, 0, none⟩ = some (.int .u8 (48 + (c * 48271 + 11) % 2147483647 / 65536 % 10))) =>
            run_one_byteL (P := Tryz.prog) W 48 9 5 b cap (48 + (c * 48271 + 11) % 2147483647 / 65536 % 10) (by kernel_rfl) (by kernel_rfl) (by kernel_rfl) (by omega) c0)
          have sz2 : (⟨#[UInt8.ofNat (48 + (c * 48271 + 11) % 2147483647 / 65536 % 10).toNat]⟩ : ByteArray).size = 1 := rfl
          have HS := Lib.hid (show (s ++ ⟨#[UInt8.ofNat (48 + (c * 48271 + 11) % 2147483647 / 65536 % 10).toNat]⟩).size = s.size + 1 from by rw [ByteArray.size_append]; rfl)
          have HDN := Lib.hid (show DigT (s ++ ⟨#[UInt8.ofNat (48 + (c * 48271 + 11) % 2147483647 / 65536 % 10).toNat]⟩) from by
            rw [show (48 + (c * 48271 + 11) % 2147483647 / 65536 % 10).toNat = 48 + ((c * 48271 + 11) % 2147483647 / 65536 % 10).toNat by omega]
            exact digs_snoc HD.out (by omega))
          have hs2 : ¬ (9223372036854775807 < s.size + 1) := by omega
          go_wp2_with fail
          go_roundw
          case rel => exact ⟨_, _, rfl, rfl, by rw [HS.out]; omega, HDN.out, q0, q1, HB.out.alloc HB.out.size _⟩
          case measure =>
            show N1 + 1 - ByteArray.size (s ++ ⟨#[UInt8.ofNat (48 + (c * 48271 + 11) % 2147483647 / 65536 % 10).toNat]⟩) < N1 + 1 - s.size
            rw [HS.out]
            omega
        · have hsn : s.size = N1 + 1 := by omega
          clear hlt hs
          go_wp2_with fail
          go_loopw [6] (fun sv wx => ∃ s : ByteArray, sv = .string s ∧ 0 < s.size ∧ s.size ≤ 100 ∧ DigT s ∧ Below wo.heap.size wo wx) (fun sv _ => strLen sv)
          case atStart => exact ⟨_, rfl, by omega, by omega, HD.out, HB.out⟩
          case round =>
            clear HD HB hsn
            obtain ⟨s, rfl, hs0, hs1, hd, hB⟩ := hrel
            have HD := Lib.hid hd
            have HB := Lib.hid hB
            clear hd hB
            have i1 := fun (w : World) => run_index_at (P := Tryz.prog) w 9 s .i64 0 rfl hs0
            have hhead := list_head hs0
            by_cases hone : s.size ≤ 1
            · have HX := Lib.hid (dt_of hs0 hs1 HD.out (.inl hone))
              have d1 : decide (1 < (s.size : Int)) = false := by rw [decide_eq_false_iff_not]; omega
              have O2 := O.out.next HB.out
              have HO2 := Lib.hid O2
              have g0 := (O2.cell 0).trans (show _ = some (Value.string _) from rfl)
              have f0 := O2.frozen 0
              have lO := O2.lt
              clear O2
              go_wp2_with fail
              go_roundw
              case rel => exact ⟨0 + 1, by omega, rfl, _, _, (fun _ => HX.out), (fun h => by omega), (A.out.next HB.out).other HL.out.2.2.1 _ _, (Z.out.next HB.out).other HL.out.2.2.2 _ _, HO2.out.set 0 (.string s), (Below.andThen BB.out HB.out).setCell (p := ⟨b3, 0, none⟩) HL.out.2.1 _⟩
              case measure => simp [intOf]
            · have d1 : decide (1 < (s.size : Int)) = true := by rw [decide_eq_true_eq]; omega
              by_cases hz : s[0] = 48
              · rw [hz] at i1
                have HS := Lib.hid (show (s.extract 1 s.size).size = s.size - 1 from by rw [ByteArray.size_extract]; omega)
                have HDN := Lib.hid (digs_tail HD.out)
                go_wp2_with fail
                go_roundw
                case rel => exact ⟨_, rfl, by rw [HS.out]; omega, by rw [HS.out]; omega, HDN.out, HB.out⟩
                case measure =>
                  show ByteArray.size (s.extract 1 s.size) < s.size
                  rw [HS.out]
                  omega
              · have HX := Lib.hid (dt_of hs0 hs1 HD.out (.inr hz))
                have hz1 : (s[0]'hs0).toNat ≠ 48 := fun h => hz (UInt8.toNat_inj.1 h)
                have d2 : (((s[0]'hs0).toNat : Int) == 48) = false := by rw [beq_eq_false_iff_ne]; omega
                have O2 := O.out.next HB.out
                have HO2 := Lib.hid O2
                have g0 := (O2.cell 0).trans (show _ = some (Value.string _) from rfl)
                have f0 := O2.frozen 0
                have lO := O2.lt
                clear O2
                go_wp2_with fail
                go_roundw
                case rel => exact ⟨0 + 1, by omega, rfl, _, _, (fun _ => HX.out), (fun h => by omega), (A.out.next HB.out).other HL.out.2.2.1 _ _, (Z.out.next HB.out).other HL.out.2.2.2 _ _, HO2.out.set 0 (.string s), (Below.andThen BB.out HB.out).setCell (p := ⟨b3, 0, none⟩) HL.out.2.1 _⟩
                case measure => simp [intOf]
    · have c0 := (A.out.cell 2).trans (show _ = some (Value.int .i64 _) from rfl)
      have c1 := (A.out.cell 3).trans (show _ = some (Value.int .i64 _) from rfl)
      have lA := A.out.lt
      go_wp2_with fail
      with_reducible refine Calls.mono (PN3.out _) ?_
      rintro e w' ⟨rfl, rfl⟩
      go_wp2_with fail
      with_reducible refine Calls.mono (PC2.out _) ?_
      rintro e w' ⟨rfl, rfl⟩
      go_wp2_with fail
      clear c0 c1 lA
      go_loopw [6, 7] (fun sv cv wx => ∃ (s : ByteArray) (c : Int), sv = .string s ∧ cv = .int .i64 c ∧ s.size ≤ N3 + 1 ∧ DigT s ∧ 0 ≤ c ∧ c < 2147483647 ∧ Below wo.heap.size wo wx) (fun sv _ _ => N3 + 1 - strLen sv)
      case atStart => exact ⟨_, _, rfl, rfl, Nat.zero_le _, digs_nil, kc2.1, by omega, Below.refl _ _⟩
      case round =>
        obtain ⟨s, c, rfl, rfl, hs, hd, hc0, hc1, hB⟩ := hrel
        have HD := Lib.hid hd
        have HB := Lib.hid hB
        clear hd hB
        by_cases hlt : s.size < N3 + 1
        · have q0 : 0 ≤ (c * 48271 + 11) % 2147483647 := by omega
          have q1 : (c * 48271 + 11) % 2147483647 < 2147483647 := by omega
          have r0 : 0 ≤ (c * 48271 + 11) % 2147483647 / 65536 % 10 ∧ (c * 48271 + 11) % 2147483647 / 65536 % 10 ≤ 9 := by omega
          have hcv := (fun (W : World) (b cap : Nat) (c0 : W.cell? ⟨b, 0, none⟩ = some (.int .u8 (48 + (c * 48271 + 11) % 2147483647 / 65536 % 10))) =>
            run_one_byteL (P := Tryz.prog) W 48 9 5 b cap (48 + (c * 48271 + 11) % 2147483647 / 65536 % 10) (by kernel_rfl) (by kernel_rfl) (by kernel_rfl) (by omega) c0)
          have sz2 : (⟨#[UInt8.ofNat (48 + (c * 48271 + 11) % 2147483647 / 65536 % 10).toNat]⟩ : ByteArray).size = 1 := rfl
          have HS := Lib.hid (show (s ++ ⟨#[UInt8.ofNat (48 + (c * 48271 + 11) % 2147483647 / 65536 % 10).toNat]⟩).size = s.size + 1 from by rw [ByteArray.size_append]; rfl)
          have HDN := Lib.hid (show DigT (s ++ ⟨#[UInt8.ofNat (48 + (c * 48271 + 11) % 2147483647 / 65536 % 10).toNat]⟩) from by
            rw [show (48 + (c * 48271 + 11) % 2147483647 / 65536 % 10).toNat = 48 + ((c * 48271 + 11) % 2147483647 / 65536 % 10).toNat by omega]
            exact digs_snoc HD.out (by omega))
          have hs2 : ¬ (9223372036854775807 < s.size + 1) := by omega
          go_wp2_with fail
          go_roundw
          case rel => exact ⟨_, _, rfl, rfl, by rw [HS.out]; omega, HDN.out, q0, q1, HB.out.alloc HB.out.size _⟩
          case measure =>
            show N3 + 1 - ByteArray.size (s ++ ⟨#[UInt8.ofNat (48 + (c * 48271 + 11) % 2147483647 / 65536 % 10).toNat]⟩) < N3 + 1 - s.size
            rw [HS.out]
            omega
        · have hsn : s.size = N3 + 1 := by omega
          clear hlt hs
          go_wp2_with fail
          go_loopw [6] (fun sv wx => ∃ s : ByteArray, sv = .string s ∧ 0 < s.size ∧ s.size ≤ 100 ∧ DigT s ∧ Below wo.heap.size wo wx) (fun sv _ => strLen sv)
          case atStart => exact ⟨_, rfl, by omega, by omega, HD.out, HB.out⟩
          case round =>
            clear HD HB hsn
            obtain ⟨s, rfl, hs0, hs1, hd, hB⟩ := hrel
            have HD := Lib.hid hd
            have HB := Lib.hid hB
            clear hd hB
            have i1 := fun (w : World) => run_index_at (P := Tryz.prog) w 9 s .i64 0 rfl hs0
            have hhead := list_head hs0
            by_cases hone : s.size ≤ 1
            · have HX := Lib.hid (dt_of hs0 hs1 HD.out (.inl hone))
              have d1 : decide (1 < (s.size : Int)) = false := by rw [decide_eq_false_iff_not]; omega
              have O2 := O.out.next HB.out
              have HO2 := Lib.hid O2
              have g0 := (O2.cell 1).trans (show _ = some (Value.string _) from rfl)
              have f0 := O2.frozen 1
              have lO := O2.lt
              clear O2
              go_wp2_with fail
              go_roundw
              case rel => exact ⟨1 + 1, by omega, rfl, _, _, (fun _ => D0.out (by omega)), (fun _ => HX.out), (A.out.next HB.out).other HL.out.2.2.1 _ _, (Z.out.next HB.out).other HL.out.2.2.2 _ _, HO2.out.set 1 (.string s), (Below.andThen BB.out HB.out).setCell (p := ⟨b3, 1, none⟩) HL.out.2.1 _⟩
              case measure => simp [intOf]
            · have d1 : decide (1 < (s.size : Int)) = true := by rw [decide_eq_true_eq]; omega
              by_cases hz : s[0] = 48
              · rw [hz] at i1
                have HS := Lib.hid (show (s.extract 1 s.size).size = s.size - 1 from by rw [ByteArray.size_extract]; omega)
                have HDN := Lib.hid (digs_tail HD.out)
                go_wp2_with fail
                go_roundw
                case rel => exact ⟨_, rfl, by rw [HS.out]; omega, by rw [HS.out]; omega, HDN.out, HB.out⟩
                case measure =>
                  show ByteArray.size (s.extract 1 s.size) < s.size
                  rw [HS.out]
                  omega
              · have HX := Lib.hid (dt_of hs0 hs1 HD.out (.inr hz))
                have hz1 : (s[0]'hs0).toNat ≠ 48 := fun h => hz (UInt8.toNat_inj.1 h)
                have d2 : (((s[0]'hs0).toNat : Int) == 48) = false := by rw [beq_eq_false_iff_ne]; omega
                have O2 := O.out.next HB.out
                have HO2 := Lib.hid O2
                have g0 := (O2.cell 1).trans (show _ = some (Value.string _) from rfl)
                have f0 := O2.frozen 1
                have lO := O2.lt
                clear O2
                go_wp2_with fail
                go_roundw
                case rel => exact ⟨1 + 1, by omega, rfl, _, _, (fun _ => D0.out (by omega)), (fun _ => HX.out), (A.out.next HB.out).other HL.out.2.2.1 _ _, (Z.out.next HB.out).other HL.out.2.2.2 _ _, HO2.out.set 1 (.string s), (Below.andThen BB.out HB.out).setCell (p := ⟨b3, 1, none⟩) HL.out.2.1 _⟩
                case measure => simp [intOf]
    · obtain ⟨u0, rfl, hu0⟩ := D0.out (by omega)
      obtain ⟨u1, rfl, hu1⟩ := D1.out (by omega)
      have hz0 := zero_text (u0 : Int)
      have hz1 := zero_text (u1 : Int)
      have hks : S0 = 0 ∨ S0 = 1 := by have := HKS.out; omega
      clear D0 D1 PN1 PN3 PC0 PC2 kc0 kc2 hn1 hn3 HKS
      -- the denominator
      by_cases e1 : u1 = 0
      · rw [decide_eq_true (show ((u1 : Int) = 0) by omega)] at hz1
        have E1 := Lib.hid e1
        clear e1
        have c0 := (O.out.cell 0).trans (show _ = some (Value.string _) from rfl)
        have c1 := (O.out.cell 1).trans (show _ = some (Value.string _) from rfl)
        have f1 := O.out.frozen 1
        have lO := O.out.lt
        go_upto_region 16 with (fail)
        refine wp_named fun w5 hq => ?_
        replace A := Lib.hid (show Row w5 b0 24 [.int .i64 x0, .int .i64 x1, .int .i64 x2, .int .i64 x3] from by rw [hq]; first | exact A.out | exact A.out.other HL.out.2.2.1 _ _)
        replace Z := Lib.hid (show Row w5 b2 23 [.string ⟨#[]⟩, .string ⟨#[]⟩] from by rw [hq]; first | exact Z.out | exact Z.out.other HL.out.2.2.2 _ _)
        replace O := Lib.hid (show Row w5 b3 64 [.string (In.txt (u0 : Int)), .string ⟨#[55]⟩] from by rw [hq]; first | exact O.out | exact O.out.set 1 (.string ⟨#[55]⟩))
        replace BB := Lib.hid (show Below w.heap.size w w5 from by rw [hq]; first | exact BB.out | exact BB.out.setCell (p := ⟨b3, 1, none⟩) HL.out.2.1 _)
        clear hq c0 c1 f1 lO hz1
        have hY : (7 : Int).natAbs < 10 ^ 100 ∧ (7 : Int) ≠ 0 ∧ In.txt (7 : Int) = ⟨#[55]⟩ := ⟨by decide, by decide, (In.num_some (s := ⟨#[55]⟩) (z := 7) (by kernel_rfl)).1.symm⟩
        obtain ⟨p, hp0, hp1, hp2, hMP⟩ := make_long (x := (u0 : Int)) (y := 7) (by omega) hY.1 hY.2.1
        obtain ⟨p', hp0', hp1', hp2', hMP'⟩ := make_long (x := -(u0 : Int)) (y := 7) (by omega) hY.1 hY.2.1
        rw [hY.2.2] at hMP hMP'
        have MP := Lib.hid hMP
        have MP' := Lib.hid hMP'
        have HP := Lib.hid (And.intro hp0 (And.intro hp1 hp2))
        have HP' := Lib.hid (And.intro hp0' (And.intro hp1' hp2'))
        have hcase : (S0 = 0 ∧ u0 ≠ 0) ∨ (S0 = 0 ∧ u0 = 0) ∨ S0 = 1 := by omega
        clear hY hp0 hp1 hp2 hMP hp0' hp1' hp2' hMP' hks
        have c0 := (A.out.cell 0).trans (show _ = some (Value.int .i64 _) from rfl)
        have lA := A.out.lt
        have g0 := (O.out.cell 0).trans (show _ = some (Value.string _) from rfl)
        have g1 := (O.out.cell 1).trans (show _ = some (Value.string _) from rfl)
        have f0 := O.out.frozen 0
        have lO := O.out.lt
        rcases hcase with ⟨rfl, k2⟩ | ⟨rfl, k2⟩ | rfl
        · rw [decide_eq_false (show ¬((u0 : Int) = 0) by omega)] at hz0
          have HM := Lib.hid (txt_minus (u := u0) (by omega))
          have hsz := num_size (In.num_fit (show In.Fit (u0 : Int) from In.fit_of (k := 100) (by omega) (by decide)))
          rw [← HM.out] at MP'
          generalize In.txt (u0 : Int) = t0 at *
          have hs2 : ¬ (9223372036854775807 < 1 + t0.size) := by omega
          go_wp2_with fail
          with_reducible refine Calls.mono (PS.out _) ?_
          rintro e w' ⟨rfl, rfl⟩
          go_upto_region 18 with (fail)
          refine wp_named fun w6 hq => ?_
          replace Z := Lib.hid (show Row w6 b2 23 [.string ⟨#[]⟩, .string ⟨#[]⟩] from by rw [hq]; exact Z.out.other HL.out.2.2.2 _ _)
          replace O := Lib.hid (show Row w6 b3 64 [.string (⟨#[45]⟩ ++ t0), .string ⟨#[55]⟩] from by rw [hq]; exact O.out.set 0 (.string (⟨#[45]⟩ ++ t0)))
          replace BB := Lib.hid (show Below w.heap.size w w6 from by rw [hq]; exact BB.out.setCell (p := ⟨b3, 0, none⟩) HL.out.2.1 _)
          clear hq c0 lA g0 g1 f0 lO hz0 A MP
          have HPP := HP'
          obtain ⟨q1, q2, hq⟩ : ∃ q1 q2, Ra.tx (some p') = (q1, q2) := ⟨_, _, rfl⟩
          rw [hq] at MP'
          have HQ := Lib.hid hq
          clear hq
          obtain ⟨cO0, cO1⟩ := O.out.two
          have lO := O.out.lt
          go_wp2_with fail
          clear cO0 cO1 lO
          with_reducible refine Calls.mono (MP'.out _) ?_
          rintro e w7 ⟨rfl, hb⟩
          replace Z := Lib.hid (Z.out.next hb)
          replace BB := Lib.hid (Below.andThen BB.out hb)
          clear hb
          go_upto_region 19 with (fail)
          refine wp_named fun v7 hq => ?_
          obtain ⟨bS, ebS⟩ : ∃ b, b = w7.heap.size := ⟨_, rfl⟩
          have S := Lib.hid (show Row v7 bS 23 [.string q1, .string q2] from by rw [hq, ebS]; first | exact Row.new _ _ _ | exact ((Row.new w7 23 [.string ⟨#[]⟩, .string ⟨#[]⟩]).set 0 (.string q1)).set 1 (.string q2))
          have hb : Below w7.heap.size w7 v7 := by rw [hq]; first | exact (Below.refl _ _).alloc (Nat.le_refl _) _ | exact (((Below.refl _ _).alloc (Nat.le_refl _) _).setCell (p := ⟨w7.heap.size, 0, none⟩) (Nat.le_refl _) _).setCell (p := ⟨w7.heap.size, 1, none⟩) (Nat.le_refl _) _
          replace Z := Lib.hid (Z.out.next hb)
          replace BB := Lib.hid (Below.andThen BB.out hb)
          rw [← ebS]
          clear hq hb ebS
          obtain ⟨cS0, cS1⟩ := S.out.two
          have lS := S.out.lt
          obtain ⟨cZ0, cZ1⟩ := Z.out.two
          have lZ := Z.out.lt
          have f0 := Z.out.frozen 0
          have f1 := Z.out.frozen 1
          go_wp2_with fail
          refine bodyPost_ret (v := ratV (q1, q2)) (by first | (simp [results, Tryz.results13, go_sem]; done) | simp [results, Tryz.results13, go_sem, *]) rfl ⟨p', by rw [HQ.out], HPP.out.1, HPP.out.2.1, HPP.out.2.2, (BB.out.setCell (p := ⟨b2, 0, none⟩) HL.out.1 _).setCell (p := ⟨b2, 1, none⟩) HL.out.1 _⟩
        · rw [decide_eq_true (show (u0 : Int) = 0 by omega)] at hz0
          generalize In.txt (u0 : Int) = t0 at *
          go_wp2_with fail
          with_reducible refine Calls.mono (PS.out _) ?_
          rintro e w' ⟨rfl, rfl⟩
          go_upto_region 18 with (fail)
          clear c0 lA g0 g1 f0 lO hz0 A MP'
          obtain ⟨q1, q2, hq⟩ : ∃ q1 q2, Ra.tx (some p) = (q1, q2) := ⟨_, _, rfl⟩
          rw [hq] at MP
          have HQ := Lib.hid hq
          clear hq
          obtain ⟨cO0, cO1⟩ := O.out.two
          have lO := O.out.lt
          go_wp2_with fail
          clear cO0 cO1 lO
          with_reducible refine Calls.mono (MP.out _) ?_
          rintro e w7 ⟨rfl, hb⟩
          replace Z := Lib.hid (Z.out.next hb)
          replace BB := Lib.hid (Below.andThen BB.out hb)
          clear hb
          go_upto_region 19 with (fail)
          refine wp_named fun v7 hq => ?_
          obtain ⟨bS, ebS⟩ : ∃ b, b = w7.heap.size := ⟨_, rfl⟩
          have S := Lib.hid (show Row v7 bS 23 [.string q1, .string q2] from by rw [hq, ebS]; first | exact Row.new _ _ _ | exact ((Row.new w7 23 [.string ⟨#[]⟩, .string ⟨#[]⟩]).set 0 (.string q1)).set 1 (.string q2))
          have hb : Below w7.heap.size w7 v7 := by rw [hq]; first | exact (Below.refl _ _).alloc (Nat.le_refl _) _ | exact (((Below.refl _ _).alloc (Nat.le_refl _) _).setCell (p := ⟨w7.heap.size, 0, none⟩) (Nat.le_refl _) _).setCell (p := ⟨w7.heap.size, 1, none⟩) (Nat.le_refl _) _
          replace Z := Lib.hid (Z.out.next hb)
          replace BB := Lib.hid (Below.andThen BB.out hb)
          rw [← ebS]
          clear hq hb ebS
          obtain ⟨cS0, cS1⟩ := S.out.two
          have lS := S.out.lt
          obtain ⟨cZ0, cZ1⟩ := Z.out.two
          have lZ := Z.out.lt
          have f0 := Z.out.frozen 0
          have f1 := Z.out.frozen 1
          go_wp2_with fail
          refine bodyPost_ret (v := ratV (q1, q2)) (by first | (simp [results, Tryz.results13, go_sem]; done) | simp [results, Tryz.results13, go_sem, *]) rfl ⟨p, by rw [HQ.out], HP.out.1, HP.out.2.1, HP.out.2.2, (BB.out.setCell (p := ⟨b2, 0, none⟩) HL.out.1 _).setCell (p := ⟨b2, 1, none⟩) HL.out.1 _⟩
        · generalize In.txt (u0 : Int) = t0 at *
          go_wp2_with fail
          with_reducible refine Calls.mono (PS.out _) ?_
          rintro e w' ⟨rfl, rfl⟩
          go_upto_region 18 with (fail)
          clear c0 lA g0 g1 f0 lO hz0 A MP'
          obtain ⟨q1, q2, hq⟩ : ∃ q1 q2, Ra.tx (some p) = (q1, q2) := ⟨_, _, rfl⟩
          rw [hq] at MP
          have HQ := Lib.hid hq
          clear hq
          obtain ⟨cO0, cO1⟩ := O.out.two
          have lO := O.out.lt
          go_wp2_with fail
          clear cO0 cO1 lO
          with_reducible refine Calls.mono (MP.out _) ?_
          rintro e w7 ⟨rfl, hb⟩
          replace Z := Lib.hid (Z.out.next hb)
          replace BB := Lib.hid (Below.andThen BB.out hb)
          clear hb
          go_upto_region 19 with (fail)
          refine wp_named fun v7 hq => ?_
          obtain ⟨bS, ebS⟩ : ∃ b, b = w7.heap.size := ⟨_, rfl⟩
          have S := Lib.hid (show Row v7 bS 23 [.string q1, .string q2] from by rw [hq, ebS]; first | exact Row.new _ _ _ | exact ((Row.new w7 23 [.string ⟨#[]⟩, .string ⟨#[]⟩]).set 0 (.string q1)).set 1 (.string q2))
          have hb : Below w7.heap.size w7 v7 := by rw [hq]; first | exact (Below.refl _ _).alloc (Nat.le_refl _) _ | exact (((Below.refl _ _).alloc (Nat.le_refl _) _).setCell (p := ⟨w7.heap.size, 0, none⟩) (Nat.le_refl _) _).setCell (p := ⟨w7.heap.size, 1, none⟩) (Nat.le_refl _) _
          replace Z := Lib.hid (Z.out.next hb)
          replace BB := Lib.hid (Below.andThen BB.out hb)
          rw [← ebS]
          clear hq hb ebS
          obtain ⟨cS0, cS1⟩ := S.out.two
          have lS := S.out.lt
          obtain ⟨cZ0, cZ1⟩ := Z.out.two
          have lZ := Z.out.lt
          have f0 := Z.out.frozen 0
          have f1 := Z.out.frozen 1
          go_wp2_with fail
          refine bodyPost_ret (v := ratV (q1, q2)) (by first | (simp [results, Tryz.results13, go_sem]; done) | simp [results, Tryz.results13, go_sem, *]) rfl ⟨p, by rw [HQ.out], HP.out.1, HP.out.2.1, HP.out.2.2, (BB.out.setCell (p := ⟨b2, 0, none⟩) HL.out.1 _).setCell (p := ⟨b2, 1, none⟩) HL.out.1 _⟩
      · rw [decide_eq_false (show ¬((u1 : Int) = 0) by omega)] at hz1
        have E1 := Lib.hid e1
        clear e1
        have c0 := (O.out.cell 0).trans (show _ = some (Value.string _) from rfl)
        have c1 := (O.out.cell 1).trans (show _ = some (Value.string _) from rfl)
        have f1 := O.out.frozen 1
        have lO := O.out.lt
        go_upto_region 16 with (fail)
        refine wp_named fun w5 hq => ?_
        replace A := Lib.hid (show Row w5 b0 24 [.int .i64 x0, .int .i64 x1, .int .i64 x2, .int .i64 x3] from by rw [hq]; first | exact A.out | exact A.out.other HL.out.2.2.1 _ _)
        replace Z := Lib.hid (show Row w5 b2 23 [.string ⟨#[]⟩, .string ⟨#[]⟩] from by rw [hq]; first | exact Z.out | exact Z.out.other HL.out.2.2.2 _ _)
        replace O := Lib.hid (show Row w5 b3 64 [.string (In.txt (u0 : Int)), .string (In.txt (u1 : Int))] from by rw [hq]; first | exact O.out | exact O.out.set 1 (.string (In.txt (u1 : Int))))
        replace BB := Lib.hid (show Below w.heap.size w w5 from by rw [hq]; first | exact BB.out | exact BB.out.setCell (p := ⟨b3, 1, none⟩) HL.out.2.1 _)
        clear hq c0 c1 f1 lO hz1
        have hY : (u1 : Int).natAbs < 10 ^ 100 ∧ (u1 : Int) ≠ 0 ∧ In.txt (u1 : Int) = (In.txt (u1 : Int)) := ⟨by omega, (fun h => E1.out (by omega)), rfl⟩
        obtain ⟨p, hp0, hp1, hp2, hMP⟩ := make_long (x := (u0 : Int)) (y := u1) (by omega) hY.1 hY.2.1
        obtain ⟨p', hp0', hp1', hp2', hMP'⟩ := make_long (x := -(u0 : Int)) (y := u1) (by omega) hY.1 hY.2.1
        rw [hY.2.2] at hMP hMP'
        have MP := Lib.hid hMP
        have MP' := Lib.hid hMP'
        have HP := Lib.hid (And.intro hp0 (And.intro hp1 hp2))
        have HP' := Lib.hid (And.intro hp0' (And.intro hp1' hp2'))
        have hcase : (S0 = 0 ∧ u0 ≠ 0) ∨ (S0 = 0 ∧ u0 = 0) ∨ S0 = 1 := by omega
        clear hY hp0 hp1 hp2 hMP hp0' hp1' hp2' hMP' hks
        have c0 := (A.out.cell 0).trans (show _ = some (Value.int .i64 _) from rfl)
        have lA := A.out.lt
        have g0 := (O.out.cell 0).trans (show _ = some (Value.string _) from rfl)
        have g1 := (O.out.cell 1).trans (show _ = some (Value.string _) from rfl)
        have f0 := O.out.frozen 0
        have lO := O.out.lt
        rcases hcase with ⟨rfl, k2⟩ | ⟨rfl, k2⟩ | rfl
        · rw [decide_eq_false (show ¬((u0 : Int) = 0) by omega)] at hz0
          have HM := Lib.hid (txt_minus (u := u0) (by omega))
          have hsz := num_size (In.num_fit (show In.Fit (u0 : Int) from In.fit_of (k := 100) (by omega) (by decide)))
          rw [← HM.out] at MP'
          generalize In.txt (u0 : Int) = t0 at *
          have hs2 : ¬ (9223372036854775807 < 1 + t0.size) := by omega
          go_wp2_with fail
          with_reducible refine Calls.mono (PS.out _) ?_
          rintro e w' ⟨rfl, rfl⟩
          go_upto_region 18 with (fail)
          refine wp_named fun w6 hq => ?_
          replace Z := Lib.hid (show Row w6 b2 23 [.string ⟨#[]⟩, .string ⟨#[]⟩] from by rw [hq]; exact Z.out.other HL.out.2.2.2 _ _)
          replace O := Lib.hid (show Row w6 b3 64 [.string (⟨#[45]⟩ ++ t0), .string (In.txt (u1 : Int))] from by rw [hq]; exact O.out.set 0 (.string (⟨#[45]⟩ ++ t0)))
          replace BB := Lib.hid (show Below w.heap.size w w6 from by rw [hq]; exact BB.out.setCell (p := ⟨b3, 0, none⟩) HL.out.2.1 _)
          clear hq c0 lA g0 g1 f0 lO hz0 A MP
          have HPP := HP'
          obtain ⟨q1, q2, hq⟩ : ∃ q1 q2, Ra.tx (some p') = (q1, q2) := ⟨_, _, rfl⟩
          rw [hq] at MP'
          have HQ := Lib.hid hq
          clear hq
          obtain ⟨cO0, cO1⟩ := O.out.two
          have lO := O.out.lt
          go_wp2_with fail
          clear cO0 cO1 lO
          with_reducible refine Calls.mono (MP'.out _) ?_
          rintro e w7 ⟨rfl, hb⟩
          replace Z := Lib.hid (Z.out.next hb)
          replace BB := Lib.hid (Below.andThen BB.out hb)
          clear hb
          go_upto_region 19 with (fail)
          refine wp_named fun v7 hq => ?_
          obtain ⟨bS, ebS⟩ : ∃ b, b = w7.heap.size := ⟨_, rfl⟩
          have S := Lib.hid (show Row v7 bS 23 [.string q1, .string q2] from by rw [hq, ebS]; first | exact Row.new _ _ _ | exact ((Row.new w7 23 [.string ⟨#[]⟩, .string ⟨#[]⟩]).set 0 (.string q1)).set 1 (.string q2))
          have hb : Below w7.heap.size w7 v7 := by rw [hq]; first | exact (Below.refl _ _).alloc (Nat.le_refl _) _ | exact (((Below.refl _ _).alloc (Nat.le_refl _) _).setCell (p := ⟨w7.heap.size, 0, none⟩) (Nat.le_refl _) _).setCell (p := ⟨w7.heap.size, 1, none⟩) (Nat.le_refl _) _
          replace Z := Lib.hid (Z.out.next hb)
          replace BB := Lib.hid (Below.andThen BB.out hb)
          rw [← ebS]
          clear hq hb ebS
          obtain ⟨cS0, cS1⟩ := S.out.two
          have lS := S.out.lt
          obtain ⟨cZ0, cZ1⟩ := Z.out.two
          have lZ := Z.out.lt
          have f0 := Z.out.frozen 0
          have f1 := Z.out.frozen 1
          go_wp2_with fail
          refine bodyPost_ret (v := ratV (q1, q2)) (by first | (simp [results, Tryz.results13, go_sem]; done) | simp [results, Tryz.results13, go_sem, *]) rfl ⟨p', by rw [HQ.out], HPP.out.1, HPP.out.2.1, HPP.out.2.2, (BB.out.setCell (p := ⟨b2, 0, none⟩) HL.out.1 _).setCell (p := ⟨b2, 1, none⟩) HL.out.1 _⟩
        · rw [decide_eq_true (show (u0 : Int) = 0 by omega)] at hz0
          generalize In.txt (u0 : Int) = t0 at *
          go_wp2_with fail
          with_reducible refine Calls.mono (PS.out _) ?_
          rintro e w' ⟨rfl, rfl⟩
          go_upto_region 18 with (fail)
          clear c0 lA g0 g1 f0 lO hz0 A MP'
          obtain ⟨q1, q2, hq⟩ : ∃ q1 q2, Ra.tx (some p) = (q1, q2) := ⟨_, _, rfl⟩
          rw [hq] at MP
          have HQ := Lib.hid hq
          clear hq
          obtain ⟨cO0, cO1⟩ := O.out.two
          have lO := O.out.lt
          go_wp2_with fail
          clear cO0 cO1 lO
          with_reducible refine Calls.mono (MP.out _) ?_
          rintro e w7 ⟨rfl, hb⟩
          replace Z := Lib.hid (Z.out.next hb)
          replace BB := Lib.hid (Below.andThen BB.out hb)
          clear hb
          go_upto_region 19 with (fail)
          refine wp_named fun v7 hq => ?_
          obtain ⟨bS, ebS⟩ : ∃ b, b = w7.heap.size := ⟨_, rfl⟩
          have S := Lib.hid (show Row v7 bS 23 [.string q1, .string q2] from by rw [hq, ebS]; first | exact Row.new _ _ _ | exact ((Row.new w7 23 [.string ⟨#[]⟩, .string ⟨#[]⟩]).set 0 (.string q1)).set 1 (.string q2))
          have hb : Below w7.heap.size w7 v7 := by rw [hq]; first | exact (Below.refl _ _).alloc (Nat.le_refl _) _ | exact (((Below.refl _ _).alloc (Nat.le_refl _) _).setCell (p := ⟨w7.heap.size, 0, none⟩) (Nat.le_refl _) _).setCell (p := ⟨w7.heap.size, 1, none⟩) (Nat.le_refl _) _
          replace Z := Lib.hid (Z.out.next hb)
          replace BB := Lib.hid (Below.andThen BB.out hb)
          rw [← ebS]
          clear hq hb ebS
          obtain ⟨cS0, cS1⟩ := S.out.two
          have lS := S.out.lt
          obtain ⟨cZ0, cZ1⟩ := Z.out.two
          have lZ := Z.out.lt
          have f0 := Z.out.frozen 0
          have f1 := Z.out.frozen 1
          go_wp2_with fail
          refine bodyPost_ret (v := ratV (q1, q2)) (by first | (simp [results, Tryz.results13, go_sem]; done) | simp [results, Tryz.results13, go_sem, *]) rfl ⟨p, by rw [HQ.out], HP.out.1, HP.out.2.1, HP.out.2.2, (BB.out.setCell (p := ⟨b2, 0, none⟩) HL.out.1 _).setCell (p := ⟨b2, 1, none⟩) HL.out.1 _⟩
        · generalize In.txt (u0 : Int) = t0 at *
          go_wp2_with fail
          with_reducible refine Calls.mono (PS.out _) ?_
          rintro e w' ⟨rfl, rfl⟩
          go_upto_region 18 with (fail)
          clear c0 lA g0 g1 f0 lO hz0 A MP'
          obtain ⟨q1, q2, hq⟩ : ∃ q1 q2, Ra.tx (some p) = (q1, q2) := ⟨_, _, rfl⟩
          rw [hq] at MP
          have HQ := Lib.hid hq
          clear hq
          obtain ⟨cO0, cO1⟩ := O.out.two
          have lO := O.out.lt
          go_wp2_with fail
          clear cO0 cO1 lO
          with_reducible refine Calls.mono (MP.out _) ?_
          rintro e w7 ⟨rfl, hb⟩
          replace Z := Lib.hid (Z.out.next hb)
          replace BB := Lib.hid (Below.andThen BB.out hb)
          clear hb
          go_upto_region 19 with (fail)
          refine wp_named fun v7 hq => ?_
          obtain ⟨bS, ebS⟩ : ∃ b, b = w7.heap.size := ⟨_, rfl⟩
          have S := Lib.hid (show Row v7 bS 23 [.string q1, .string q2] from by rw [hq, ebS]; first | exact Row.new _ _ _ | exact ((Row.new w7 23 [.string ⟨#[]⟩, .string ⟨#[]⟩]).set 0 (.string q1)).set 1 (.string q2))
          have hb : Below w7.heap.size w7 v7 := by rw [hq]; first | exact (Below.refl _ _).alloc (Nat.le_refl _) _ | exact (((Below.refl _ _).alloc (Nat.le_refl _) _).setCell (p := ⟨w7.heap.size, 0, none⟩) (Nat.le_refl _) _).setCell (p := ⟨w7.heap.size, 1, none⟩) (Nat.le_refl _) _
          replace Z := Lib.hid (Z.out.next hb)
          replace BB := Lib.hid (Below.andThen BB.out hb)
          rw [← ebS]
          clear hq hb ebS
          obtain ⟨cS0, cS1⟩ := S.out.two
          have lS := S.out.lt
          obtain ⟨cZ0, cZ1⟩ := Z.out.two
          have lZ := Z.out.lt
          have f0 := Z.out.frozen 0
          have f1 := Z.out.frozen 1
          go_wp2_with fail
          refine bodyPost_ret (v := ratV (q1, q2)) (by first | (simp [results, Tryz.results13, go_sem]; done) | simp [results, Tryz.results13, go_sem, *]) rfl ⟨p, by rw [HQ.out], HP.out.1, HP.out.2.1, HP.out.2.2, (BB.out.setCell (p := ⟨b2, 0, none⟩) HL.out.1 _).setCell (p := ⟨b2, 1, none⟩) HL.out.1 _⟩
end Go.Proofs.YtlehjmanlccncaaGreatDoor
