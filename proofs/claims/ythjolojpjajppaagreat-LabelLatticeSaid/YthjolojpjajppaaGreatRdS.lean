/- label.Decode's pieces: which label is read and valid; the deferred closure. -/
import Derived.Test.YthjolojpjajppaaGreatLGE
import Derived.Recover
set_option linter.unusedVariables false
set_option linter.unusedSimpArgs false
set_option linter.unnecessarySimpa false
namespace Go.Proofs.YthjolojpjajppaaGreat
open Go.RowKit
namespace Rd
open Sq
open Lb (bodyPost_named La pK)
/-- a label's lists as mathematics: is it valid? -/
def keyB (l : List Int) (n : Int) : Bool := Lb.numB l 0 19 && decide (1 ≤ n) && decide (n ≤ l.length)
def catchP (b0 b1 b2 : Nat) (w : World) : World := ((((((((w.setCell ⟨b0, 0, none⟩ (.int .i64 0)).setCell ⟨b0, 1, none⟩ (.slice none 0 0)).setCell ⟨b0, 2, none⟩ (.slice none 0 0)).setCell ⟨b0, 3, none⟩ (.int .i64 0)).setCell ⟨b0, 4, none⟩ (.int .i64 0)).setCell ⟨b0, 5, none⟩ (.slice none 0 0)).setCell ⟨b1, 0, none⟩ (.int .i64 0)).setCell ⟨b2, 0, none⟩ (.bool false)).alloc (.cells #[.int .i64 0, .slice none 0 0, .slice none 0 0, .int .i64 0, .int .i64 0, .slice none 0 0] 28)
set_option maxRecDepth 100000 in
set_option maxHeartbeats 2000000 in
theorem catch_panicking (b0 b1 b2 : Nat) (C0 C1 C2 : List Value) (older : List PanicEntry) (u : TypeId) (pv : Value) (w : World) (h0 : Row w b0 28 C0) (hC0 : C0.length = 6) (h1 : Row w b1 3 C1) (hC1 : C1.length = 1) (h2 : Row w b2 4 C2) (hC2 : C2.length = 1)
    (h01 : b0 ≠ b1) (h02 : b0 ≠ b2) (h12 : b1 ≠ b2) :
    CallsD Tryz.prog 126 #[ptV b0, ptV b1, ptV b2] (.panicking ({ v := .iface u pv, recovered := false } :: older)) w fun e u' w' =>
      e = .returned (.tuple #[]) ∧ u' = .panicking ({ v := .iface u pv, recovered := true } :: older) ∧ w' = catchP b0 b1 b2 w := by
  obtain ⟨c00, c01, c02, c03, c04, c05, rfl⟩ : ∃ c00 c01 c02 c03 c04 c05, C0 = [c00, c01, c02, c03, c04, c05] := by
    match C0, hC0 with
    | [a, b, c, d, e, f], _ => exact ⟨a, b, c, d, e, f, rfl⟩
  obtain ⟨c10, rfl⟩ : ∃ c10, C1 = [c10] := by
    match C1, hC1 with
    | [a], _ => exact ⟨a, rfl⟩
  obtain ⟨c20, rfl⟩ : ∃ c20, C2 = [c20] := by
    match C2, hC2 with
    | [a], _ => exact ⟨a, rfl⟩
  have R0 := Lib.hid h0
  have R1 := Lib.hid h1
  have R2 := Lib.hid h2
  clear h0 h1 h2 hC0 hC1 hC2
  have p0 := R0.out.cell 0
  have p1 := R0.out.cell 1
  have p2 := R0.out.cell 2
  have p3 := R0.out.cell 3
  have p4 := R0.out.cell 4
  have p5 := R0.out.cell 5
  have lp := R0.out.lt
  simp only [List.getElem?_cons_zero, List.getElem?_cons_succ] at p0 p1 p2 p3 p4 p5
  have fp0 := R0.out.frozen 0
  have fp1 := R0.out.frozen 1
  have fp2 := R0.out.frozen 2
  have fp3 := R0.out.frozen 3
  have fp4 := R0.out.frozen 4
  have fp5 := R0.out.frozen 5
  have q0 := R1.out.cell 0
  have lq := R1.out.lt
  simp only [List.getElem?_cons_zero, List.getElem?_cons_succ] at q0
  have fq0 := R1.out.frozen 0
  have r0 := R2.out.cell 0
  have lr := R2.out.lt
  simp only [List.getElem?_cons_zero, List.getElem?_cons_succ] at r0
  have fr0 := R2.out.frozen 0
  have np := Nat.ne_of_gt lp
  have nq := Nat.ne_of_gt lq
  have nr := Nat.ne_of_gt lr
  have h10 := Ne.symm h01
  have h20 := Ne.symm h02
  have h21 := Ne.symm h12
  refine callsD_of_wpS Tryz.func126 rfl fun c₀ cs hu => ?_
  apply wpS_seq
  apply wpS_region
  have hn : ∀ w : World, (binOp .neq 20 (.iface u pv) .nilIface).run Tryz.prog w = .ok (.bool true) w := fun _ => rfl
  simp [wpOpsS, go_sem, recoverD, hu, hn, Tryz.ntmps126, Exit.thenS]
  refine wpS_cond (t := true) (by simp [Act.eval, Array.replicate]) ?_
  simp only [if_true]
  refine wpS_of_wp ?_
  clear hn
  go_wp2_with fail
  simp [bodyPostS, results, Tryz.results126, catchP]
set_option maxRecDepth 100000 in
theorem catch_idle (b0 b1 b2 : Nat) (w : World) :
    CallsD Tryz.prog 126 #[ptV b0, ptV b1, ptV b2] .returning w fun e u' w' => e = .returned (.tuple #[]) ∧ u' = .returning ∧ w' = w := by
  refine callsD_of_wpS Tryz.func126 rfl fun c₀ cs hu => ?_
  apply wpS_seq
  apply wpS_region
  have hn : ∀ w : World, (binOp .neq 20 .nilIface .nilIface).run Tryz.prog w = .ok (.bool false) w := fun _ => rfl
  simp [wpOpsS, go_sem, recoverD, hu, hn, Tryz.ntmps126, Exit.thenS]
  refine wpS_cond (t := false) (by simp [Act.eval, Array.replicate]) ?_
  simp only [Bool.false_eq_true, if_false]
  refine wpS_of_wp (wp_skip ?_)
  cases c₀
  simp_all [bodyPostS, results, Tryz.results126]
end Rd
end Go.Proofs.YthjolojpjajppaaGreat
