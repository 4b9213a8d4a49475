/- coding's Writer.Ints and Writer.List, of numbers that lie anywhere but where the writer writes. -/
import Derived.Test.YthjolojpjajppaaGreatLGB
import Derived.Test.YthjolojpjajppaaGreatLGC
import Derived.BigRegion
import Derived.Deep.RegionWith
set_option linter.unusedVariables false
set_option linter.unusedSimpArgs false
set_option linter.unnecessarySimpa false
namespace Go.Proofs.YthjolojpjajppaaGreat
open Go.RowKit Go.Shelf
namespace Cdz
open Cod (Wr Wo enI badI enI_take badI_take enI_len putR_len put_any)
/-- numbers that lie where the writer doesn't write -/
def Iz (w : World) (b : Nat) (v : Value) (o : Option Addr) (ns : List Int) : Prop :=
  ns = [] ∨ ∃ r off, o = some ⟨r, off, none⟩ ∧ r < w.heap.size ∧ r ≠ b ∧ v.ownBlock ≠ some r ∧ ∀ (j : Nat) n, ns[j]? = some n → w.cell? ⟨r, off + j, none⟩ = some (.int .i64 n)
theorem Iz.step {w w' : World} {b : Nat} {v v' : Value} {o : Option Addr} {ns : List Int} (h : Iz w b v o ns) (k : Wo w w' b v v') : Iz w' b v' o ns := by
  rcases h with rfl | ⟨r, off, h1, h2, h3, h4, h5⟩
  · exact .inl rfl
  · refine .inr ⟨r, off, h1, Nat.lt_of_lt_of_le h2 k.below.size, h3, fun e => ?_, fun j n hj => (World.cell?_of_block (w := w) (k.keep r h2 h3 h4)).trans (h5 j n hj)⟩
    rcases k.fresh r e with e | e
    · exact h4 e
    · omega
theorem Iz.cells {w : World} {b : Nat} {v : Value} {o : Option Addr} {ns : List Int} (h : Iz w b v o ns) {k : Nat} (hk : k < ns.length) : ∃ r off, o = some ⟨r, off, none⟩ ∧ w.cell? ⟨r, off + k, none⟩ = some (.int .i64 ns[k]) := by
  rcases h with rfl | ⟨r, off, h1, h2, _, _, h5⟩
  · exact absurd hk (by simp)
  · exact ⟨r, off, h1, h5 k _ (List.getElem?_eq_getElem hk)⟩
theorem iz_sv {w w1 : World} {b n c : Nat} {v : Value} {o : Option Addr} {ns : List Int} (h : Lb.Sv Lb.intE w o n c ns) (hb : Below w.heap.size w w1) (hbw : w.heap.size ≤ b) (hv : ∀ j, v.ownBlock = some j → b < j) : Iz w1 b v o ns := by
  rcases h.2.2.2.2 with rfl | ⟨r, off, e, hl, hc⟩
  · exact .inl rfl
  · refine .inr ⟨r, off, e, Nat.lt_of_lt_of_le hl hb.size, by omega, fun e2 => by have := hv r e2; omega, fun j n hj => ?_⟩
    have := hc j n hj 0 _ rfl
    rw [show off + j * Lb.intE.k + 0 = off + j from by show off + j * 1 + 0 = _; omega] at this
    exact (hb.cell (p := ⟨r, off + j, none⟩) hl).trans this
/-- a writer's text lies behind its block -/
theorem wr_own {w : World} {b : Nat} {v : Value} {l : List UInt8} {f : Bool} (h : Wr w b v l f) : ∀ j, v.ownBlock = some j → b < j ∧ j < w.heap.size := fun j hj => by
  have := World.ownsRow.lt h.2 j hj
  omega
theorem iz_new {w : World} {b : Nat} {v : Value} {l : List UInt8} {f : Bool} (h : Wr w b v l f) (t : TypeId) (ns : List Int) : Iz (w.alloc (.cells (ns.map (Value.int .i64)).toArray t)) b v (some ⟨w.heap.size, 0, none⟩) ns := by
  refine .inr ⟨w.heap.size, 0, rfl, by simp, by have := h.1.lt; omega, fun e => by have := wr_own h _ e; omega, fun j n hj => ?_⟩
  rw [Nat.zero_add, (Row.new w t _).cell, List.getElem?_map, hj]
  rfl
set_option maxRecDepth 100000 in
set_option maxHeartbeats 2000000 in
theorem Ints_any (b : Nat) (v : Value) (l : List UInt8) (f : Bool) (o : Option Addr) (N c : Nat) (ns : List Int) (w : World) (hN : ns.length = N) (h : Wr w b v l f) (hS : Iz w b v o ns) (hl : l.length + 9 * N ≤ 1000000) :
    Calls Tryz.prog 82 #[.pointer (some ⟨b, 0, none⟩), .slice o N c] w fun x w' => x = .returned (.tuple #[]) ∧ ∃ v', Wr w' b v' (l ++ enI ns) (f || badI ns) ∧ Wo w w' b v v' := by
  have hlt := h.1.lt
  have CP := Lib.hid (show ∀ (n : Int) (W : World), Calls Tryz.prog 123 #[.int .i64 n] W fun e w' => e = .returned (.tuple #[.string ⟨(putR n).1.toArray⟩, .int .i64 (putR n).2]) ∧ Below W.heap.size W w' from Wi.put_any)
  have CU := Lib.hid put_any
  have HI := Lib.hid hS
  have HW := Lib.hid h
  clear h hS
  go_enter Tryz.func82, Tryz.ntmps82
  go_wp2_with fail
  go_loopw [8] (fun iv wr => ∃ (k : Nat) (v' : Value), iv = .int .i64 k ∧ k ≤ N ∧ Wr wr b v' (l ++ enI (ns.take k)) (f || badI (ns.take k)) ∧ Wo w wr b v v') (fun iv _ => N - (intOf iv).toNat)
  case atStart => exact ⟨0, v, rfl, Nat.zero_le _, by simpa [enI, badI] using HW.out, Wo.of v (Below.refl _ _) (by omega)⟩
  case round =>
    obtain ⟨k, v', rfl, hk, hW, hO⟩ := hrel
    by_cases hlt2 : k < N
    · have hkn : k < ns.length := by omega
      have HI2 := Lib.hid (HI.out.step hO)
      obtain ⟨r, off, rfl, hc⟩ := HI2.out.cells hkn
      have E1 := Lib.hid (enI_take hkn)
      have E2 := Lib.hid (badI_take hkn)
      have HL := Lib.hid (enI_len (ns.take k))
      have HP := Lib.hid (putR_len ns[k])
      have HT : (ns.take k).length = k := by rw [List.length_take]; omega
      generalize ns[k] = n at *
      have HW2 := Lib.hid hW
      have HO2 := Lib.hid hO
      clear hW hO
      go_wp2_with fail
      generalize HM : putR n = m at *
      obtain ⟨m1, m2⟩ := m
      have HQ := Lib.hid (show (l ++ enI (ns.take k)).length + (⟨m1.toArray⟩ : ByteArray).size ≤ 1000000 by
        have h1 := HL.out
        have h2 : m1.length ≤ 9 := HP.out
        rw [HT] at h1
        rw [List.length_append]
        show _ + m1.toArray.size ≤ _
        rw [List.size_toArray]
        omega)
      go_region_with (first
        | (go_at_call 123; with_reducible refine Calls.mono (CP.out _ _) ?_; rintro e w2 ⟨rfl, hb⟩; rw [HM]; have HB := Lib.hid (show Below wr.heap.size wr w2 by first | exact hb | exact Below.andThen ((Below.refl _ _).drew) hb); clear hb)
        | (go_at_call 122; with_reducible refine Calls.mono (CU.out b v' _ _ _ _ _ (HW2.out.next HB.out) HQ.out) ?_; rintro e w3 ⟨rfl, hX3⟩; have HX := Lib.hid hX3; clear hX3))
      all_goals
        go_wp2_with fail
        go_roundw
        case rel =>
          obtain ⟨v3, hW3, hO3⟩ := HX.out
          exact ⟨k + 1, v3, by go_num, by omega, by rw [E1.out, E2.out, ← List.append_assoc, ← Bool.or_assoc]; exact hW3, HO2.out.trans ((Wo.of v' HB.out (Nat.le_of_lt HW2.out.1.lt)).trans hO3)⟩
        case measure => simp [intOf]; omega
    · obtain rfl : k = N := by omega
      have e1 : ns.take k = ns := List.take_of_length_le (by omega)
      rw [e1] at hW
      have HW2 := Lib.hid hW
      have HO2 := Lib.hid hO
      clear hW hO
      go_wp2_with fail
      go_end0
      exact ⟨rfl, v', HW2.out, HO2.out⟩
set_option maxRecDepth 100000 in
set_option maxHeartbeats 2000000 in
theorem List_any (b : Nat) (v : Value) (l : List UInt8) (f : Bool) (o : Option Addr) (N c : Nat) (ns : List Int) (w : World) (hN : ns.length = N) (h : Wr w b v l f) (hS : Iz w b v o ns) (hl : l.length + 9 * N + 9 ≤ 1000000) :
    Calls Tryz.prog 83 #[.pointer (some ⟨b, 0, none⟩), .slice o N c] w fun x w' => x = .returned (.tuple #[]) ∧ ∃ v', Wr w' b v' (l ++ enI ((N : Int) :: ns)) (f || badI ((N : Int) :: ns)) ∧ Wo w w' b v v' := by
  have hA := (Below.refl w.heap.size w).alloc (Nat.le_refl _) (.cells #[.int .i64 N] 3)
  have C1 := Lib.hid (Ints_any b v l f (some ⟨w.heap.size, 0, none⟩) 1 1 [(N : Int)] (w.alloc (.cells #[.int .i64 N] 3)) rfl (h.next hA) (iz_new h 3 [(N : Int)]) (by omega))
  have hW0 := Wo.of v hA (Nat.le_of_lt h.1.lt)
  have HW0 := Lib.hid hW0
  have C2 := Lib.hid (fun (v1 : Value) (W : World) (hW : Wr W b v1 (l ++ enI [(N : Int)]) (f || badI [(N : Int)])) (hO : Wo w W b v v1) => Ints_any b v1 _ _ o N c ns W hN hW (hS.step hO) (by have := enI_len [(N : Int)]; rw [List.length_append]; simp at this; omega))
  clear h hS hA hW0
  go_enter Tryz.func83, Tryz.ntmps83
  go_upto_region 1 with (go_at_call 82; (with_reducible refine Calls.mono C1.out ?_); rintro e w2 ⟨rfl, v1, hW, hO⟩; have HW1 := Lib.hid hW; have HO1 := Lib.hid (HW0.out.trans hO); clear hW hO)
  go_wp2_with (go_at_call 82; (with_reducible refine Calls.mono (C2.out v1 _ HW1.out HO1.out) ?_); rintro e w3 ⟨rfl, v2, hW, hO⟩; have HW2 := Lib.hid hW; have HO2 := Lib.hid (HO1.out.trans hO); clear hW hO)
  go_end0
  refine ⟨rfl, v2, ?_, HO2.out⟩
  have e1 : enI ((N : Int) :: ns) = enI [(N : Int)] ++ enI ns := by unfold enI; simp
  have e2 : badI ((N : Int) :: ns) = (badI [(N : Int)] || badI ns) := by unfold badI; simp
  rw [e1, e2, ← List.append_assoc, ← Bool.or_assoc]
  exact HW2.out
end Cdz
end Go.Proofs.YthjolojpjajppaaGreat
