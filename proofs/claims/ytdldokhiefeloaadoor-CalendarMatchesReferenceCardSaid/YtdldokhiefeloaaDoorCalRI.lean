/- The reference's Read. -/
import Derived.Test.YtdldokhiefeloaaDoorCalRH
import Derived.Test.YtdldokhiefeloaaDoorFloat
namespace Go.Proofs.YtdldokhiefeloaaDoor
open Go.RowKit

def wdM (b : Nat) (w : World) : Nat := match w.cell? ⟨b, 5, none⟩ with
  | some (.int _ x) => (7 - x).toNat
  | _ => 0
theorem wdM_of {b : Nat} {w : World} {k : IntKind} {x : Int} (h : w.cell? ⟨b, 5, none⟩ = some (.int k x)) : wdM b w = (7 - x).toNat := by unfold wdM; rw [h]
theorem byte_at {s : ByteArray} {k : Nat} (h : k < s.size) (c : UInt8) : s.data.toList[k]? = some c ↔ ((s[k].toNat : Int) = c.toNat) := by
  have hl : k < s.data.toList.length := by simpa using h
  rw [List.getElem?_eq_getElem hl]
  have e : s.data.toList[k] = s[k] := rfl
  rw [e, Option.some.injEq, ← UInt8.toNat_inj]
  omega

set_option maxRecDepth 100000 in
set_option maxHeartbeats 4000000 in
theorem refRead_bad (s t : ByteArray) (o : Int) (w : World) (hr : readR s t o = (0, 60))
    (key : ((s.size : Int) != 10) = true ∨ (((s.size : Int) != 10) = false ∧ ((t.size : Int) != 5) = true)) :
    Calls Tryd.prog 50 #[.string s, .string t, .int .i64 o] w fun e w' => e = .returned (.tuple #[.int .i64 (readR s t o).1, .int .i64 (readR s t o).2]) ∧ Below w.heap.size w w' := by
  rw [hr]
  clear hr
  rcases key with k | ⟨k, k2⟩
  all_goals
    go_enter Tryd.func50, Tryd.ntmps50
    go_wp2
    go_ret2
    exact ⟨rfl, Below.refl _ _⟩

set_option maxRecDepth 100000 in
set_option maxHeartbeats 4000000 in
theorem refRead_bad2 (s t : ByteArray) (o : Int) (w : World) (hs : s.size = 10) (ht : t.size = 5) (hr : readR s t o = (0, 60)) (x4 x7 x2 : Int) (e4 : ((s[4]'(by omega)).toNat : Int) = x4) (e7 : ((s[7]'(by omega)).toNat : Int) = x7) (e2 : ((t[2]'(by omega)).toNat : Int) = x2)
    (key : (x4 != 45) = true ∨ ((x4 != 45) = false ∧ (x7 != 45) = true) ∨ ((x4 != 45) = false ∧ (x7 != 45) = false ∧ (x2 != 58) = true)) :
    Calls Tryd.prog 50 #[.string s, .string t, .int .i64 o] w fun e w' => e = .returned (.tuple #[.int .i64 (readR s t o).1, .int .i64 (readR s t o).2]) ∧ Below w.heap.size w w' := by
  rw [hr]
  have i4 : ∀ w : World, (Instr.index 9 (.string s) (.int .i64 4)).run Tryd.prog w = .ok (.int .u8 x4) w := fun w => by rw [← e4]; exact run_index_at w 9 s .i64 4 rfl (by omega)
  have i7 : ∀ w : World, (Instr.index 9 (.string s) (.int .i64 7)).run Tryd.prog w = .ok (.int .u8 x7) w := fun w => by rw [← e7]; exact run_index_at w 9 s .i64 7 rfl (by omega)
  have i2 : ∀ w : World, (Instr.index 9 (.string t) (.int .i64 2)).run Tryd.prog w = .ok (.int .u8 x2) w := fun w => by rw [← e2]; exact run_index_at w 9 t .i64 2 rfl (by omega)
  have k1 : ((s.size : Int) != 10) = false := by rw [bne_eq_false_iff_eq]; omega
  have k2 : ((t.size : Int) != 5) = false := by rw [bne_eq_false_iff_eq]; omega
  clear hr e4 e7 e2
  rcases key with k | ⟨k, k3⟩ | ⟨k, k3, k4⟩
  all_goals
    go_enter Tryd.func50, Tryd.ntmps50
    go_wp2
    go_ret2
    exact ⟨rfl, Below.refl _ _⟩

set_option maxRecDepth 100000 in
set_option maxHeartbeats 4000000 in
theorem refRead_good (s t : ByteArray) (o a1 a2 a3 a4 a5 : Int) (V : Int × Int) (w : World) (hs : s.size = 10) (ht : t.size = 5) (e4 : ((s[4]'(by omega)).toNat : Int) = 45) (e7 : ((s[7]'(by omega)).toNat : Int) = 45) (e2 : ((t[2]'(by omega)).toNat : Int) = 58)
    (H1 : ∀ w, Calls Tryd.prog 79 #[.string (s.extract 0 4)] w fun e w' => e = .returned (.int .i64 a1) ∧ w = w')
    (H2 : ∀ w, Calls Tryd.prog 79 #[.string (s.extract 5 7)] w fun e w' => e = .returned (.int .i64 a2) ∧ w = w')
    (H3 : ∀ w, Calls Tryd.prog 79 #[.string (s.extract 8 10)] w fun e w' => e = .returned (.int .i64 a3) ∧ w = w')
    (H4 : ∀ w, Calls Tryd.prog 79 #[.string (t.extract 0 2)] w fun e w' => e = .returned (.int .i64 a4) ∧ w = w')
    (H5 : ∀ w, Calls Tryd.prog 79 #[.string (t.extract 3 5)] w fun e w' => e = .returned (.int .i64 a5) ∧ w = w')
    (HV : (∃ W : Nat, W < 7 ∧ V.2 = 0 ∧ minuteR ⟨a1, a2, a3, a4, a5, W⟩ o = V ∧ ∀ v : Nat, v < W → (minuteR ⟨a1, a2, a3, a4, a5, v⟩ o).2 = 60) ∨ (V = (0, 60) ∧ ∀ v : Nat, (minuteR ⟨a1, a2, a3, a4, a5, v⟩ o).2 = 60)) :
    Calls Tryd.prog 50 #[.string s, .string t, .int .i64 o] w fun e w' => e = .returned (.tuple #[.int .i64 V.1, .int .i64 V.2]) ∧ Below w.heap.size w w' := by
  have i4 : ∀ w : World, (Instr.index 9 (.string s) (.int .i64 4)).run Tryd.prog w = .ok (.int .u8 45) w := fun w => by rw [← e4]; exact run_index_at w 9 s .i64 4 rfl (by omega)
  have i7 : ∀ w : World, (Instr.index 9 (.string s) (.int .i64 7)).run Tryd.prog w = .ok (.int .u8 45) w := fun w => by rw [← e7]; exact run_index_at w 9 s .i64 7 rfl (by omega)
  have i2 : ∀ w : World, (Instr.index 9 (.string t) (.int .i64 2)).run Tryd.prog w = .ok (.int .u8 58) w := fun w => by rw [← e2]; exact run_index_at w 9 t .i64 2 rfl (by omega)
  have k1 : ((s.size : Int) != 10) = false := by rw [bne_eq_false_iff_eq]; omega
  have k2 : ((t.size : Int) != 5) = false := by rw [bne_eq_false_iff_eq]; omega
  have G1 := Lib.hid H1
  have G2 := Lib.hid H2
  have G3 := Lib.hid H3
  have G4 := Lib.hid H4
  have G5 := Lib.hid H5
  have GV := Lib.hid HV
  clear H1 H2 H3 H4 H5 HV e4 e7 e2
  go_enter Tryd.func50, Tryd.ntmps50
  go_wp2_with fail
  refine wp_region_float 16 17 _ (.cells #[.int .i64 0, .int .i64 0, .int .i64 0, .int .i64 0, .int .i64 0, .int .i64 0] 57) (by kernel_rfl) (by kernel_rfl) rfl rfl (fun ρ w1 => by go_simp) (w.heap.size) 0 (by first | assumption | (simp; done) | (simp; omega) | omega | (have := HS.out; omega)) (fun WW hk hWW => ?_)
  simp only [List.take_succ_cons, List.take_zero, List.drop_succ_cons, List.drop_zero, List.cons_append, List.nil_append]
  repeat (go_big_quiet_step (first | (go_at_call 79; first | with_reducible exact Calls.kin_same (G1.out _) | with_reducible exact Calls.kin_same (G2.out _) | with_reducible exact Calls.kin_same (G3.out _) | with_reducible exact Calls.kin_same (G4.out _) | with_reducible exact Calls.kin_same (G5.out _))))
  refine wpQuiet_nil ?_
  clear hk hWW
  intro W3 b3 hb3 hl3 ho3
  obtain ⟨oc3, of3⟩ := block_cells ho3; have HO3 := Lib.hid ho3; clear ho3
  simp only [Act.put, List.setIfInBounds_toArray, List.set_cons_zero, List.set_cons_succ]
  obtain ⟨hd3, hg3, hy3⟩ := after (B := w.heap.size) 0 hb3 (by first | assumption | (simp; done) | (simp; omega) | omega | (have := HS.out; omega)); obtain ⟨hc3, hf3, hz3⟩ := after (B := w.heap.size) 0 hb3 (by first | assumption | (simp; done) | (simp; omega) | omega | (have := HS.out; omega)); have HB3 := Lib.hid hb3; clear hb3
  have R3 : Row W3 b3 57 [.int .i64 0, .int .i64 0, .int .i64 0, .int .i64 0, .int .i64 0, .int .i64 0] := HO3.out
  have l3 := R3.lt
  have hl := hl3
  go_upto_region 6 with fail
  obtain ⟨w5, e5⟩ : ∃ w5, w5 = ((((((W3.setCell ⟨b3, 0, none⟩ (.int .i64 a1)).setCell ⟨b3, 1, none⟩ (.int .i64 a2)).setCell ⟨b3, 2, none⟩ (.int .i64 a3)).setCell ⟨b3, 3, none⟩ (.int .i64 a4)).setCell ⟨b3, 4, none⟩ (.int .i64 a5)).setCell ⟨b3, 5, none⟩ (.int .i64 0)) := ⟨_, rfl⟩
  rw [← e5]
  have R5 := (((((R3.set 0 (.int .i64 a1)).set 1 (.int .i64 a2)).set 2 (.int .i64 a3)).set 3 (.int .i64 a4)).set 4 (.int .i64 a5)).set 5 (.int .i64 0)
  have B5 : Below w.heap.size w ((((((W3.setCell ⟨b3, 0, none⟩ (.int .i64 a1)).setCell ⟨b3, 1, none⟩ (.int .i64 a2)).setCell ⟨b3, 2, none⟩ (.int .i64 a3)).setCell ⟨b3, 3, none⟩ (.int .i64 a4)).setCell ⟨b3, 4, none⟩ (.int .i64 a5)).setCell ⟨b3, 5, none⟩ (.int .i64 0)) := ((((((HB3.out).setCell hl _).setCell hl _).setCell hl _).setCell hl _).setCell hl _).setCell hl _
  simp only [List.set_cons_zero, List.set_cons_succ] at R5
  rw [← e5] at R5 B5
  clear e5 oc3 of3 HO3 R3 l3 hc3 hf3 hz3 HB3
  have c5 := R5.cell 5
  simp only [List.getElem?_cons_zero, List.getElem?_cons_succ] at c5
  have f5 := R5.frozen
  have l5 := R5.lt
  have A5 := Lib.hid R5
  have Q5 := Lib.hid B5
  clear R5 B5
  go_wp2_with fail
  have A6 := Lib.hid (show Row (w5.setCell ⟨b3, 5, none⟩ (.int .i64 0)) b3 57 [.int .i64 a1, .int .i64 a2, .int .i64 a3, .int .i64 a4, .int .i64 a5, .int .i64 0] by
    have h := A5.out.set 5 (.int .i64 0)
    simp only [List.set_cons_zero, List.set_cons_succ] at h
    exact h)
  have Q6 := Lib.hid (show Below w.heap.size w (w5.setCell ⟨b3, 5, none⟩ (.int .i64 0)) from Q5.out.setCell hl _)
  clear c5 f5 l5 A5 Q5
  go_loopw [9, 10] (fun _ _ wr => ∃ v : Nat, v ≤ 7 ∧ Row wr b3 57 [.int .i64 a1, .int .i64 a2, .int .i64 a3, .int .i64 a4, .int .i64 a5, .int .i64 v] ∧ Below w.heap.size w wr ∧ ∀ u : Nat, u < v → (minuteR ⟨a1, a2, a3, a4, a5, u⟩ o).2 = 60) (fun _ _ wr => wdM b3 wr)
  case atStart => exact ⟨0, by omega, A6.out, Q6.out, fun u hu => absurd hu (Nat.not_lt_zero _)⟩
  case round =>
    obtain ⟨v, hv, R, B, hu⟩ := hrel
    clear A6 Q6
    have c0 := R.cell 0
    have c1 := R.cell 1
    have c2 := R.cell 2
    have c3 := R.cell 3
    have c4 := R.cell 4
    have c5 := R.cell 5
    simp only [List.getElem?_cons_zero, List.getElem?_cons_succ] at c0 c1 c2 c3 c4 c5
    have MW := Lib.hid (wdM_of c5)
    have A := Lib.hid R
    have Q := Lib.hid B
    have HU := Lib.hid hu
    clear R B hu
    by_cases hlt : v < 7
    · have dich : (minuteR ⟨a1, a2, a3, a4, a5, v⟩ o).2 = 60 ∨ (minuteR ⟨a1, a2, a3, a4, a5, v⟩ o = V ∧ V.2 = 0) := by
        rcases GV.out with ⟨W, hW, h0, hm, hbef⟩ | ⟨_, hall⟩
        · rcases Nat.lt_trichotomy v W with h | h | h
          · exact .inl (hbef v h)
          · subst h
            exact .inr ⟨hm, h0⟩
          · have := HU.out W h
            rw [hm, h0] at this
            cases this
        · exact .inl (hall v)
      have HMi := Lib.hid (fun w => refMinute_any ⟨a1, a2, a3, a4, a5, v⟩ o w)
      generalize hR : minuteR ⟨a1, a2, a3, a4, a5, v⟩ o = RR at *
      have HRR := Lib.hid hR
      clear hR
      obtain ⟨x, e⟩ := RR
      rcases dich with h | ⟨h, h0⟩
      · dsimp only at h
        subst h
        go_wp2_with fail
        refine (HMi.out _).mono ?_
        rintro e w6 ⟨rfl, hb⟩
        have A7 := Lib.hid (A.out.next hb)
        have Q7 := Lib.hid (Below.andThen Q.out hb)
        clear hb c0 c1 c2 c3 c4 c5
        have d5 := A7.out.cell 5
        simp only [List.getElem?_cons_zero, List.getElem?_cons_succ] at d5
        have f7 := A7.out.frozen
        have l7 := A7.out.lt
        go_wp2_with fail
        have A8 := Lib.hid (show Row (w6.setCell ⟨b3, 5, none⟩ (.int .i64 ((v : Int) + 1))) b3 57 [.int .i64 a1, .int .i64 a2, .int .i64 a3, .int .i64 a4, .int .i64 a5, .int .i64 ((v + 1 : Nat) : Int)] by
          have h := A7.out.set 5 (.int .i64 ((v : Int) + 1))
          simp only [List.set_cons_zero, List.set_cons_succ] at h
          exact h)
        go_roundw
        case rel =>
          refine ⟨v + 1, by omega, A8.out, Q7.out.setCell hl _, fun u hu => ?_⟩
          by_cases h : u < v
          · exact HU.out u h
          · obtain rfl : u = v := by omega
            rw [HRR.out]
        case measure =>
          rw [MW.out, wdM_of (A8.out.cell 5)]
          omega
      · have hV : V = (x, 0) := by rw [← h] at h0 ⊢; dsimp only at h0; rw [h0]
        have e0 : e = 0 := by rw [← h] at h0; exact h0
        subst e0 hV
        clear h h0
        go_wp2_with fail
        refine (HMi.out _).mono ?_
        rintro e w6 ⟨rfl, hb⟩
        have Q7 := Lib.hid (Below.andThen Q.out hb)
        clear hb c0 c1 c2 c3 c4 c5
        go_wp2
        go_ret2
        exact ⟨rfl, Q7.out⟩
    · obtain rfl : v = 7 := by omega
      have hV : V = (0, 60) := by
        rcases GV.out with ⟨W, hW, h0, hm, hbef⟩ | ⟨h, _⟩
        · have := HU.out W hW
          rw [hm, h0] at this
          cases this
        · exact h
      subst hV
      go_wp2
      go_ret2
      exact ⟨rfl, Q.out⟩

theorem refRead_any (s t : ByteArray) (o : Int) (w : World) :
    Calls Tryd.prog 50 #[.string s, .string t, .int .i64 o] w fun e w' => e = .returned (.tuple #[.int .i64 (readR s t o).1, .int .i64 (readR s t o).2]) ∧ Below w.heap.size w w' := by
  by_cases h10 : s.size = 10
  · by_cases h5 : t.size = 5
    · by_cases hsep : s.data.toList[4]? = some 45 ∧ s.data.toList[7]? = some 45 ∧ t.data.toList[2]? = some 58
      · obtain ⟨p4, p7, p2⟩ := hsep
        obtain ⟨cs, cA, cB, cC⟩ := cut3 h10 p4 p7
        obtain ⟨ct, cD, cE⟩ := cut2 h5 p2
        exact refRead_good s t o _ _ _ _ _ (readR s t o) w h10 h5 ((byte_at (by omega) 45).1 p4) ((byte_at (by omega) 45).1 p7) ((byte_at (by omega) 58).1 p2)
          (fun w => refNumber_any _ w (by omega)) (fun w => refNumber_any _ w (by omega)) (fun w => refNumber_any _ w (by omega)) (fun w => refNumber_any _ w (by omega)) (fun w => refNumber_any _ w (by omega))
          (read_match cs cA cB cC ct cD cE)
      · refine refRead_bad2 s t o w h10 h5 (read_none (fun h => hsep ⟨(date_shape h.1).2.1, (date_shape h.1).2.2, (clock_shape h.2).2⟩)) _ _ _ rfl rfl rfl ?_
        rw [byte_at (by omega), byte_at (by omega), byte_at (by omega)] at hsep
        by_cases k1 : ((s[4]'(by omega)).toNat : Int) = 45
        · by_cases k2 : ((s[7]'(by omega)).toNat : Int) = 45
          · exact .inr (.inr ⟨by rw [bne_eq_false_iff_eq]; exact k1, by rw [bne_eq_false_iff_eq]; exact k2, by rw [bne_iff_ne]; exact fun h => hsep ⟨k1, k2, h⟩⟩)
          · exact .inr (.inl ⟨by rw [bne_eq_false_iff_eq]; exact k1, by rw [bne_iff_ne]; exact k2⟩)
        · exact .inl (by rw [bne_iff_ne]; exact k1)
    · exact refRead_bad s t o w (read_none (fun h => h5 (clock_shape h.2).1)) (.inr ⟨by rw [bne_eq_false_iff_eq]; omega, by rw [bne_iff_ne]; omega⟩)
  · exact refRead_bad s t o w (read_none (fun h => h10 (date_shape h.1).1)) (.inl (by rw [bne_iff_ne]; omega))
end Go.Proofs.YtdldokhiefeloaaDoor
