/- Add, Sub. -/
/- Mul, Div. -/
/- Helpers of the laws: is, four. -/
/- Of. -/
import Derived.Test.YtlehjmanlccncaaGreatDoorRatGC
import Derived.Deep.RegionHeld3
import Derived.Test.YtlehjmanlccncaaGreatDoorRatGB
import Derived.Test.YtlehjmanlccncaaGreatDoorIntGI
set_option linter.unusedVariables false
set_option linter.unusedSimpArgs false
namespace Go.Proofs.YtlehjmanlccncaaGreatDoor
open Go.RowKit

set_option maxRecDepth 100000 in
set_option maxHeartbeats 4000000 in
theorem Add_r (ra rb : ByteArray × ByteArray) (w : World) (T : TabI w) :
    Calls Tryz.prog 38 #[ratV ra, ratV rb] w fun e w' => e = .returned (resV (Ra.addO (Ra.val ra) (Ra.val rb))) ∧ Below w.heap.size w w' := by
  have CC := Lib.hid (fun W T => combine_add ra rb W T)
  obtain ⟨a1, a2⟩ := ra
  obtain ⟨c1, c2⟩ := rb
  have HT := Lib.hid T
  obtain ⟨q1, q2, ec, htq⟩ : ∃ (q1 q2 : ByteArray) (ec : Int), resV (Ra.addO (Ra.val (a1, a2)) (Ra.val (c1, c2))) = .tuple #[ratV (q1, q2), .int .i64 ec] := by
    cases Ra.addO (Ra.val (a1, a2)) (Ra.val (c1, c2)) with
    | none => exact ⟨⟨#[]⟩, ⟨#[]⟩, 40, rfl⟩
    | some v => exact ⟨In.txt v.1, In.txt v.2, 0, rfl⟩
  rw [htq] at CC ⊢
  clear T htq
  go_enter Tryz.func38, Tryz.ntmps38
  go_upto_region 1 with (fail)
  refine wp_named fun w1 hw => ?_
  obtain ⟨b0, hb0⟩ : ∃ x, x = w.heap.size := ⟨_, rfl⟩
  obtain ⟨b1, hb1⟩ : ∃ x, x = w.heap.size + 1 := ⟨_, rfl⟩
  obtain ⟨b2, hb2⟩ : ∃ x, x = w.heap.size + 1 + 1 := ⟨_, rfl⟩
  have R1 : Row w1 b0 23 [.string a1, .string a2] ∧ Row w1 b1 23 [.string c1, .string c2] ∧ Row w1 b2 23 [.string ⟨#[]⟩, .string ⟨#[]⟩] ∧ Below w.heap.size w w1 := by
    rw [hw, hb0, hb1, hb2]
    refine ⟨((Row.new w _ [.string a1, .string a2]).alloc _).alloc _, ?_, ?_, (((Below.refl _ _).alloc (Nat.le_refl _) _).alloc (by simp) _).alloc (by simp; omega) _⟩
    · have h := (Row.new (w.alloc (.cells #[.string a1, .string a2] 23)) 23 [.string c1, .string c2]).alloc (.cells #[.string ⟨#[]⟩, .string ⟨#[]⟩] 23)
      rw [World.size_alloc] at h
      exact h
    · have h := Row.new ((w.alloc (.cells #[.string a1, .string a2] 23)).alloc (.cells #[.string c1, .string c2] 23)) 23 [.string ⟨#[]⟩, .string ⟨#[]⟩]
      rw [World.size_alloc, World.size_alloc] at h
      exact h
  rw [← hb2, ← hb1, ← hb0]
  have HR := Lib.hid (And.intro R1 (show w.heap.size ≤ b2 by omega))
  have k0 := (R1.1.cell 0).trans (show _ = some (Value.string a1) from rfl)
  have k1 := (R1.1.cell 1).trans (show _ = some (Value.string a2) from rfl)
  have k2 := (R1.2.1.cell 0).trans (show _ = some (Value.string c1) from rfl)
  have k3 := (R1.2.1.cell 1).trans (show _ = some (Value.string c2) from rfl)
  obtain ⟨l0, l1⟩ : b0 < w1.heap.size ∧ b1 < w1.heap.size := ⟨R1.1.lt, R1.2.1.lt⟩
  clear hw R1 hb0 hb1 hb2
  go_wp2_with fail
  with_reducible refine Calls.mono (CC.out _ (TabI.next HT.out HR.out.1.2.2.2)) ?_
  rintro e w2 ⟨rfl, hb⟩
  have HX := Lib.hid (And.intro (HR.out.1.2.2.1.next hb) (Below.andThen HR.out.1.2.2.2 hb))
  have r0 := (HX.out.1.cell 0).trans (show _ = some (Value.string ⟨#[]⟩) from rfl)
  have r1 := (HX.out.1.cell 1).trans (show _ = some (Value.string ⟨#[]⟩) from rfl)
  have f0 := HX.out.1.frozen 0
  have f1 := HX.out.1.frozen 1
  have lr := HX.out.1.lt
  clear hb k0 k1 k2 k3 l0 l1
  go_wp2_with fail
  refine bodyPost_ret (v := .tuple #[ratV (q1, q2), .int .i64 ec]) (by first | (simp [results, Tryz.results38, go_sem]; done) | simp [results, Tryz.results38, go_sem, *]) rfl ⟨rfl, (HX.out.2.setCell (p := ⟨b2, 0, none⟩) HR.out.2 _).setCell (p := ⟨b2, 1, none⟩) HR.out.2 _⟩
set_option maxRecDepth 100000 in
set_option maxHeartbeats 4000000 in
theorem Sub_r (ra rb : ByteArray × ByteArray) (w : World) (T : TabI w) :
    Calls Tryz.prog 40 #[ratV ra, ratV rb] w fun e w' => e = .returned (resV (Ra.subO (Ra.val ra) (Ra.val rb))) ∧ Below w.heap.size w w' := by
  have CC := Lib.hid (fun W T => combine_sub ra rb W T)
  obtain ⟨a1, a2⟩ := ra
  obtain ⟨c1, c2⟩ := rb
  have HT := Lib.hid T
  obtain ⟨q1, q2, ec, htq⟩ : ∃ (q1 q2 : ByteArray) (ec : Int), resV (Ra.subO (Ra.val (a1, a2)) (Ra.val (c1, c2))) = .tuple #[ratV (q1, q2), .int .i64 ec] := by
    cases Ra.subO (Ra.val (a1, a2)) (Ra.val (c1, c2)) with
    | none => exact ⟨⟨#[]⟩, ⟨#[]⟩, 40, rfl⟩
    | some v => exact ⟨In.txt v.1, In.txt v.2, 0, rfl⟩
  rw [htq] at CC ⊢
  clear T htq
  go_enter Tryz.func40, Tryz.ntmps40
  go_upto_region 1 with (fail)
  refine wp_named fun w1 hw => ?_
  obtain ⟨b0, hb0⟩ : ∃ x, x = w.heap.size := ⟨_, rfl⟩
  obtain ⟨b1, hb1⟩ : ∃ x, x = w.heap.size + 1 := ⟨_, rfl⟩
  obtain ⟨b2, hb2⟩ : ∃ x, x = w.heap.size + 1 + 1 := ⟨_, rfl⟩
  have R1 : Row w1 b0 23 [.string a1, .string a2] ∧ Row w1 b1 23 [.string c1, .string c2] ∧ Row w1 b2 23 [.string ⟨#[]⟩, .string ⟨#[]⟩] ∧ Below w.heap.size w w1 := by
    rw [hw, hb0, hb1, hb2]
    refine ⟨((Row.new w _ [.string a1, .string a2]).alloc _).alloc _, ?_, ?_, (((Below.refl _ _).alloc (Nat.le_refl _) _).alloc (by simp) _).alloc (by simp; omega) _⟩
    · have h := (Row.new (w.alloc (.cells #[.string a1, .string a2] 23)) 23 [.string c1, .string c2]).alloc (.cells #[.string ⟨#[]⟩, .string ⟨#[]⟩] 23)
      rw [World.size_alloc] at h
      exact h
    · have h := Row.new ((w.alloc (.cells #[.string a1, .string a2] 23)).alloc (.cells #[.string c1, .string c2] 23)) 23 [.string ⟨#[]⟩, .string ⟨#[]⟩]
      rw [World.size_alloc, World.size_alloc] at h
      exact h
  rw [← hb2, ← hb1, ← hb0]
  have HR := Lib.hid (And.intro R1 (show w.heap.size ≤ b2 by omega))
  have k0 := (R1.1.cell 0).trans (show _ = some (Value.string a1) from rfl)
  have k1 := (R1.1.cell 1).trans (show _ = some (Value.string a2) from rfl)
  have k2 := (R1.2.1.cell 0).trans (show _ = some (Value.string c1) from rfl)
  have k3 := (R1.2.1.cell 1).trans (show _ = some (Value.string c2) from rfl)
  obtain ⟨l0, l1⟩ : b0 < w1.heap.size ∧ b1 < w1.heap.size := ⟨R1.1.lt, R1.2.1.lt⟩
  clear hw R1 hb0 hb1 hb2
  go_wp2_with fail
  with_reducible refine Calls.mono (CC.out _ (TabI.next HT.out HR.out.1.2.2.2)) ?_
  rintro e w2 ⟨rfl, hb⟩
  have HX := Lib.hid (And.intro (HR.out.1.2.2.1.next hb) (Below.andThen HR.out.1.2.2.2 hb))
  have r0 := (HX.out.1.cell 0).trans (show _ = some (Value.string ⟨#[]⟩) from rfl)
  have r1 := (HX.out.1.cell 1).trans (show _ = some (Value.string ⟨#[]⟩) from rfl)
  have f0 := HX.out.1.frozen 0
  have f1 := HX.out.1.frozen 1
  have lr := HX.out.1.lt
  clear hb k0 k1 k2 k3 l0 l1
  go_wp2_with fail
  refine bodyPost_ret (v := .tuple #[ratV (q1, q2), .int .i64 ec]) (by first | (simp [results, Tryz.results40, go_sem]; done) | simp [results, Tryz.results40, go_sem, *]) rfl ⟨rfl, (HX.out.2.setCell (p := ⟨b2, 0, none⟩) HR.out.2 _).setCell (p := ⟨b2, 1, none⟩) HR.out.2 _⟩
end Go.Proofs.YtlehjmanlccncaaGreatDoor
set_option linter.unusedVariables false
set_option linter.unusedSimpArgs false
namespace Go.Proofs.YtlehjmanlccncaaGreatDoor
open Go.RowKit

theorem below_new6 {w w' : World} (h : Below w.heap.size w w') (o : Obj) : Below w.heap.size w (w'.alloc o) := h.alloc h.size o
/-- where the variables lie -/
def v6 (b0 b1 b3 b4 : Nat) : Nat → Nat × Nat
  | 0 => (b0, 0)
  | 1 => (b0, 1)
  | 2 => (b1, 0)
  | 3 => (b1, 1)
  | 4 => (b3, 0)
  | _ => (b4, 0)
theorem six_cases {i : Nat} (h : i < 6) : i = 0 ∨ i = 1 ∨ i = 2 ∨ i = 3 ∨ i = 4 ∨ i = 5 := by omega
theorem lay_PM {w0 : World} {b0 b1 b3 b4 m1 m2 b : Nat} (hb : b1 = b0 + 1 ∧ b3 = b0 + 3 ∧ b4 = b0 + 4 ∧ w0.heap.size ≤ b0) (h1 : b4 < m1) (h2 : b4 < m2) (h5 : b4 < b) :
    Lay w0 6 2 (v6 b0 b1 b3 b4) (n5 m1 m2 0 0 0) PM b := by
  obtain ⟨e1, e3, e4, e0⟩ := hb
  refine ⟨fun i j hi hj h => ?_, fun j hj => ?_, fun m j hm hj => ?_, fun m hm => ?_, fun j hj => ?_⟩
  · rcases six_cases hi with rfl | rfl | rfl | rfl | rfl | rfl <;> rcases six_cases hj with rfl | rfl | rfl | rfl | rfl | rfl <;> simp only [v6, Prod.mk.injEq] at h <;> omega
  · rcases six_cases hj with rfl | rfl | rfl | rfl | rfl | rfl <;> simp only [v6] <;> omega
  · rcases two_cases hm with rfl | rfl <;> rcases six_cases hj with rfl | rfl | rfl | rfl | rfl | rfl <;> simp only [v6, n5] <;> omega
  · rcases two_cases hm with rfl | rfl
    · exact ⟨show 4 < 6 by decide, show 0 < 6 by decide, show 2 < 6 by decide⟩
    · exact ⟨show 5 < 6 by decide, show 1 < 6 by decide, show 3 < 6 by decide⟩
  · rcases six_cases hj with rfl | rfl | rfl | rfl | rfl | rfl <;> simp only [v6] <;> omega
theorem mach_PM {w0 w : World} {b0 b1 b3 b4 m1 m2 b : Nat} {a1 a2 c1 c2 : ByteArray} (hb : Below w0.heap.size w0 w) (r0 : Row w b0 23 [.string a1, .string a2]) (r1 : Row w b1 23 [.string c1, .string c2]) (r3 : Box w b3 ⟨#[]⟩) (r4 : Box w b4 ⟨#[]⟩)
    (t1 : Step w 68 m1 (b3, 0) (b0, 0) (b1, 0)) (t2 : Step w 68 m2 (b4, 0) (b0, 1) (b1, 1)) (hs : Row w b 80 [stepV m1, stepV m2]) :
    Mach w0 6 2 (v6 b0 b1 b3 b4) (n5 m1 m2 0 0 0) PM b 0 (s8 a1 a2 c1 c2) w := by
  refine ⟨hb, fun j hj => ?_, fun m hm => ?_, fun m hm => ?_, hs.lt⟩
  · rcases six_cases hj with rfl | rfl | rfl | rfl | rfl | rfl
    · exact Var.of r0 rfl
    · exact Var.of r0 rfl
    · exact Var.of r1 rfl
    · exact Var.of r1 rfl
    · exact Var.of r3 rfl
    · exact Var.of r4 rfl
  · rcases two_cases hm with rfl | rfl
    · exact t1
    · exact t2
  · rw [Nat.zero_add, hs.cell]
    rcases two_cases hm with rfl | rfl <;> rfl
theorem end_PM (w w1 x1 x2 : World) {b0 b1 b2 b3 b4 : Nat} (a1 a2 c1 c2 : ByteArray) (T : TabI w)
    (R : Row w1 b0 23 [.string a1, .string a2] ∧ Row w1 b1 23 [.string c1, .string c2] ∧ Row w1 b2 23 [.string ⟨#[]⟩, .string ⟨#[]⟩] ∧ Box w1 b3 ⟨#[]⟩ ∧ Box w1 b4 ⟨#[]⟩ ∧ Below w.heap.size w w1 ∧ w1.heap.size = b4 + 1)
    (E : b1 = b0 + 1 ∧ b2 = b0 + 2 ∧ b3 = b0 + 3 ∧ b4 = b0 + 4 ∧ b0 = w.heap.size)
    (t1 : Step x1 68 w1.heap.size (b3, 0) (b0, 0) (b1, 0)) (g1 : Below w1.heap.size w1 x1)
    (t2 : Step x2 68 x1.heap.size (b4, 0) (b0, 1) (b1, 1)) (g2 : Below x1.heap.size x1 x2) :
    Calls Tryz.prog 66 #[ratV (a1, a2), ratV (c1, c2), ptrA (b3, 0), ptrA (b4, 0), .slice (some ⟨x2.heap.size, 0, none⟩) 2 2] (x2.alloc (.cells #[stepV w1.heap.size, stepV x1.heap.size] 80)) fun e w' =>
      e = .returned (resV (Ra.mulO (Ra.val (a1, a2)) (Ra.val (c1, c2)))) ∧ Below w.heap.size w w' ∧ Row w' b0 23 [.string a1, .string a2] ∧ Row w' b1 23 [.string c1, .string c2] ∧ Row w' b2 23 [.string ⟨#[]⟩, .string ⟨#[]⟩] := by
  obtain ⟨q0, q1, q2, q3, q4, q7, q8⟩ := R
  have g5 : Below x2.heap.size x2 (x2.alloc (.cells #[stepV w1.heap.size, stepV x1.heap.size] 80)) := below_new6 (Below.refl _ _) _
  have hs : Row (x2.alloc (.cells #[stepV w1.heap.size, stepV x1.heap.size] 80)) x2.heap.size 80 [stepV w1.heap.size, stepV x1.heap.size] := Row.new _ _ _
  generalize x2.alloc (.cells #[stepV w1.heap.size, stepV x1.heap.size] 80) = ws at *
  have h2 := Below.andThen g2 g5
  have h1 := Below.andThen g1 h2
  have z1 := g1.size
  have z2 := g2.size
  have zs := hs.lt
  refine (finish_is w 6 2 2 _ _ _ x2.heap.size 0 _ ws T (by decide) (Nat.le_refl _) (lay_PM (b0 := b0) (b1 := b1) (b3 := b3) (b4 := b4) (m1 := w1.heap.size) (m2 := x1.heap.size) ⟨by omega, by omega, by omega, by omega⟩ (by omega) (by omega) (by omega))
    (mach_PM (Below.andThen q7 h1) (q0.next h1) (q1.next h1) (q3.next h1) (q4.next h1) (t1.next h2) (t2.next g5) hs) (a1, a2) (c1, c2) 4 5 (by decide) (by decide)
    (fun W => Row W b0 23 [.string a1, .string a2] ∧ Row W b1 23 [.string c1, .string c2] ∧ Row W b2 23 [.string ⟨#[]⟩, .string ⟨#[]⟩]) ⟨q0.next h1, q1.next h1, q2.next h1⟩ ?_ ?_ ?_ _ (comb_PM a1 a2 c1 c2).1 (comb_PM a1 a2 c1 c2).2).mono (fun _ _ h => h)
  · rintro W wm m v hm ⟨r0, r1, r2⟩ hb
    rcases two_cases hm with rfl | rfl
    · exact ⟨(r0.next hb).other (show b0 ≠ b3 by omega) _ _, (r1.next hb).other (show b1 ≠ b3 by omega) _ _, (r2.next hb).other (show b2 ≠ b3 by omega) _ _⟩
    · exact ⟨(r0.next hb).other (show b0 ≠ b4 by omega) _ _, (r1.next hb).other (show b1 ≠ b4 by omega) _ _, (r2.next hb).other (show b2 ≠ b4 by omega) _ _⟩
  · rintro W wm ⟨r0, r1, r2⟩ hb
    exact ⟨r0.next hb, r1.next hb, r2.next hb⟩
  · rintro W b o v hb ⟨r0, r1, r2⟩
    exact ⟨r0.other (by omega) _ _, r1.other (by omega) _ _, r2.other (by omega) _ _⟩
set_option maxRecDepth 100000 in
set_option maxHeartbeats 8000000 in
theorem Mul_r (ra rb : ByteArray × ByteArray) (w : World) (T : TabI w) :
    Calls Tryz.prog 39 #[ratV ra, ratV rb] w fun e w' => e = .returned (resV (Ra.mulO (Ra.val ra) (Ra.val rb))) ∧ Below w.heap.size w w' := by
  obtain ⟨a1, a2⟩ := ra
  obtain ⟨c1, c2⟩ := rb
  have HT := Lib.hid T
  obtain ⟨q1, q2, ec, htq⟩ : ∃ (q1 q2 : ByteArray) (ec : Int), resV (Ra.mulO (Ra.val (a1, a2)) (Ra.val (c1, c2))) = .tuple #[ratV (q1, q2), .int .i64 ec] := by
    cases Ra.mulO (Ra.val (a1, a2)) (Ra.val (c1, c2)) with
    | none => exact ⟨⟨#[]⟩, ⟨#[]⟩, 40, rfl⟩
    | some v => exact ⟨In.txt v.1, In.txt v.2, 0, rfl⟩
  rw [htq]
  have HQ := Lib.hid htq
  clear T htq
  go_enter Tryz.func39, Tryz.ntmps39
  go_upto_region 2 with (fail)
  refine wp_named fun w1 hw => ?_
  obtain ⟨b0, hb0⟩ : ∃ x, x = w.heap.size := ⟨_, rfl⟩
  obtain ⟨b1, hb1⟩ : ∃ x, x = w.heap.size + 1 := ⟨_, rfl⟩
  obtain ⟨b2, hb2⟩ : ∃ x, x = w.heap.size + 1 + 1 := ⟨_, rfl⟩
  obtain ⟨b3, hb3⟩ : ∃ x, x = w.heap.size + 1 + 1 + 1 := ⟨_, rfl⟩
  obtain ⟨b4, hb4⟩ : ∃ x, x = w.heap.size + 1 + 1 + 1 + 1 := ⟨_, rfl⟩
  have R1 : Row w1 b0 23 [.string a1, .string a2] ∧ Row w1 b1 23 [.string c1, .string c2] ∧ Row w1 b2 23 [.string ⟨#[]⟩, .string ⟨#[]⟩] ∧ Box w1 b3 ⟨#[]⟩ ∧ Box w1 b4 ⟨#[]⟩ ∧ Below w.heap.size w w1 ∧ w1.heap.size = b4 + 1 := by
    rw [hw, hb0, hb1, hb2, hb3, hb4]
    generalize hA0 : w.alloc (.cells #[.string a1, .string a2] 23) = A0
    have z0 : A0.heap.size = w.heap.size + 1 := by rw [← hA0]; simp
    have n0 : Row A0 w.heap.size 23 [.string a1, .string a2] := by rw [← hA0]; exact Row.new _ _ _
    have p0 : Below w.heap.size w A0 := by rw [← hA0]; exact (Below.refl _ _).alloc (Nat.le_refl _) _
    generalize hA1 : A0.alloc (.cells #[.string c1, .string c2] 23) = A1
    have z1 : A1.heap.size = w.heap.size + 1 + 1 := by rw [← hA1]; simp [z0]
    have n1 : Row A1 (w.heap.size + 1) 23 [.string c1, .string c2] := by rw [← z0, ← hA1]; exact Row.new _ _ _
    have p1 : Below A0.heap.size A0 A1 := by rw [← hA1]; exact (Below.refl _ _).alloc (Nat.le_refl _) _
    generalize hA2 : A1.alloc (.cells #[.string ⟨#[]⟩, .string ⟨#[]⟩] 23) = A2
    have z2 : A2.heap.size = w.heap.size + 1 + 1 + 1 := by rw [← hA2]; simp [z1]
    have n2 : Row A2 (w.heap.size + 1 + 1) 23 [.string ⟨#[]⟩, .string ⟨#[]⟩] := by rw [← z1, ← hA2]; exact Row.new _ _ _
    have p2 : Below A1.heap.size A1 A2 := by rw [← hA2]; exact (Below.refl _ _).alloc (Nat.le_refl _) _
    generalize hA3 : A2.alloc (.cells #[.string ⟨#[]⟩] 9) = A3
    have z3 : A3.heap.size = w.heap.size + 1 + 1 + 1 + 1 := by rw [← hA3]; simp [z2]
    have n3 : Box A3 (w.heap.size + 1 + 1 + 1) ⟨#[]⟩ := by rw [← z2, ← hA3]; exact Row.new _ _ _
    have p3 : Below A2.heap.size A2 A3 := by rw [← hA3]; exact (Below.refl _ _).alloc (Nat.le_refl _) _
    generalize hA4 : A3.alloc (.cells #[.string ⟨#[]⟩] 9) = A4
    have z4 : A4.heap.size = w.heap.size + 1 + 1 + 1 + 1 + 1 := by rw [← hA4]; simp [z3]
    have n4 : Box A4 (w.heap.size + 1 + 1 + 1 + 1) ⟨#[]⟩ := by rw [← z3, ← hA4]; exact Row.new _ _ _
    have p4 : Below A3.heap.size A3 A4 := by rw [← hA4]; exact (Below.refl _ _).alloc (Nat.le_refl _) _
    have k3 := p4
    have k2 := Below.andThen p3 k3
    have k1 := Below.andThen p2 k2
    have k0 := Below.andThen p1 k1
    exact ⟨n0.next k0, n1.next k1, n2.next k2, n3.next k3, n4, Below.andThen p0 k0, z4⟩
  rw [← hb4, ← hb3, ← hb2, ← hb1, ← hb0]
  have HE := Lib.hid (show b1 = b0 + 1 ∧ b2 = b0 + 2 ∧ b3 = b0 + 3 ∧ b4 = b0 + 4 ∧ b0 = w.heap.size from by omega)
  have HR := Lib.hid R1
  clear hw R1 hb0 hb1 hb2 hb3 hb4
  have CELLS := Lib.hid (fun (W : World) (h : Below w1.heap.size w1 W) => show W.cell? ⟨b0, 0, none⟩ = some (.string a1) ∧ W.cell? ⟨b0, 1, none⟩ = some (.string a2) ∧ W.cell? ⟨b1, 0, none⟩ = some (.string c1) ∧ W.cell? ⟨b1, 1, none⟩ = some (.string c2) from
    ⟨((HR.out.1.next h).cell 0).trans rfl, ((HR.out.1.next h).cell 1).trans rfl, ((HR.out.2.1.next h).cell 0).trans rfl, ((HR.out.2.1.next h).cell 1).trans rfl⟩)
  have hB0 : Below w1.heap.size w1 w1 := Below.refl _ _
  obtain ⟨k0, k1, k2, k3⟩ := CELLS.out w1 hB0
  obtain ⟨l0, l1, l2⟩ : b0 < w1.heap.size ∧ b1 < w1.heap.size ∧ b2 < w1.heap.size := ⟨HR.out.1.lt, HR.out.2.1.lt, HR.out.2.2.1.lt⟩
  have d02 : b0 ≠ b2 := by have := HE.out; omega
  have d12 : b1 ≠ b2 := by have := HE.out; omega
  (go_region_held3 (fun w' => w'.cell? ⟨b0, 0, none⟩ = some (.string a1) ∧ w'.cell? ⟨b0, 1, none⟩ = some (.string a2) ∧ w'.cell? ⟨b1, 0, none⟩ = some (.string c1) ∧ w'.cell? ⟨b1, 1, none⟩ = some (.string c2)) (first | exact ⟨by assumption, by assumption, by assumption, by assumption⟩ | exact CELLS.out _ (below_new6 (by assumption) _) | exact ⟨((World.cell?_setCell_far _ _ _ _ (fun e => d02 e.symm)).trans (World.cell?_setCell_far _ _ _ _ (fun e => d02 e.symm))).trans (by assumption), ((World.cell?_setCell_far _ _ _ _ (fun e => d02 e.symm)).trans (World.cell?_setCell_far _ _ _ _ (fun e => d02 e.symm))).trans (by assumption), ((World.cell?_setCell_far _ _ _ _ (fun e => d12 e.symm)).trans (World.cell?_setCell_far _ _ _ _ (fun e => d12 e.symm))).trans (by assumption), ((World.cell?_setCell_far _ _ _ _ (fun e => d12 e.symm)).trans (World.cell?_setCell_far _ _ _ _ (fun e => d12 e.symm))).trans (by assumption)⟩ | go_keep)
    (first
      | (go_at_call 67
         first
          | (refine Calls.mono (set_any_Mul (b3, 0) (b0, 0) (b1, 0) _) ?_; rintro e wx1 ⟨rfl, hs1, hbx1⟩
             have hB1 := Below.andThen (by first | assumption | exact Below.drew (by assumption) : Below w1.heap.size w1 _) hbx1
             obtain ⟨k10, k11, k12, k13⟩ := CELLS.out wx1 hB1)
          | (refine Calls.mono (set_any_Mul (b4, 0) (b0, 1) (b1, 1) _) ?_; rintro e wx2 ⟨rfl, hs2, hbx2⟩
             have hB2 := Below.andThen (by first | assumption | exact Below.drew (by assumption) : Below w1.heap.size w1 _) hbx2
             obtain ⟨k20, k21, k22, k23⟩ := CELLS.out wx2 hB2))
      | (go_at_call 66
         refine Calls.mono (end_PM w w1 wx1 wx2 a1 a2 c1 c2 HT.out HR.out HE.out hs1 hB1 hs2 hbx2) ?_
         rintro e wf ⟨hre, hbf, hrows⟩
         rw [HQ.out] at hre
         subst hre
         have HF := Lib.hid (And.intro hbf hrows)
         have c0 := (hrows.1.cell 0).trans (show _ = some (Value.string a1) from rfl)
         have c1' := (hrows.1.cell 1).trans (show _ = some (Value.string a2) from rfl)
         have c2' := (hrows.2.1.cell 0).trans (show _ = some (Value.string c1) from rfl)
         have c3 := (hrows.2.1.cell 1).trans (show _ = some (Value.string c2) from rfl)
         have r0 := (hrows.2.2.cell 0).trans (show _ = some (Value.string ⟨#[]⟩) from rfl)
         have r1 := (hrows.2.2.cell 1).trans (show _ = some (Value.string ⟨#[]⟩) from rfl)
         have f0 := hrows.2.2.frozen 0
         have f1 := hrows.2.2.frozen 1
         have lr := hrows.2.2.lt
         clear hbf hrows)))
  all_goals
    go_wp2_with fail
    have hle : w.heap.size ≤ b2 := by have := HE.out; omega
    refine bodyPost_ret (v := .tuple #[ratV (q1, q2), .int .i64 ec]) (by first | (simp [results, Tryz.results39, go_sem]; done) | simp [results, Tryz.results39, go_sem, *]) rfl ⟨rfl, (HF.out.1.setCell (p := ⟨b2, 0, none⟩) hle _).setCell (p := ⟨b2, 1, none⟩) hle _⟩
theorem lay_PD {w0 : World} {b0 b1 b3 b4 m1 m2 b : Nat} (hb : b1 = b0 + 1 ∧ b3 = b0 + 3 ∧ b4 = b0 + 4 ∧ w0.heap.size ≤ b0) (h1 : b4 < m1) (h2 : b4 < m2) (h5 : b4 < b) :
    Lay w0 6 2 (v6 b0 b1 b3 b4) (n5 m1 m2 0 0 0) PD b := by
  obtain ⟨e1, e3, e4, e0⟩ := hb
  refine ⟨fun i j hi hj h => ?_, fun j hj => ?_, fun m j hm hj => ?_, fun m hm => ?_, fun j hj => ?_⟩
  · rcases six_cases hi with rfl | rfl | rfl | rfl | rfl | rfl <;> rcases six_cases hj with rfl | rfl | rfl | rfl | rfl | rfl <;> simp only [v6, Prod.mk.injEq] at h <;> omega
  · rcases six_cases hj with rfl | rfl | rfl | rfl | rfl | rfl <;> simp only [v6] <;> omega
  · rcases two_cases hm with rfl | rfl <;> rcases six_cases hj with rfl | rfl | rfl | rfl | rfl | rfl <;> simp only [v6, n5] <;> omega
  · rcases two_cases hm with rfl | rfl
    · exact ⟨show 4 < 6 by decide, show 0 < 6 by decide, show 3 < 6 by decide⟩
    · exact ⟨show 5 < 6 by decide, show 1 < 6 by decide, show 2 < 6 by decide⟩
  · rcases six_cases hj with rfl | rfl | rfl | rfl | rfl | rfl <;> simp only [v6] <;> omega
theorem mach_PD {w0 w : World} {b0 b1 b3 b4 m1 m2 b : Nat} {a1 a2 c1 c2 : ByteArray} (hb : Below w0.heap.size w0 w) (r0 : Row w b0 23 [.string a1, .string a2]) (r1 : Row w b1 23 [.string c1, .string c2]) (r3 : Box w b3 ⟨#[]⟩) (r4 : Box w b4 ⟨#[]⟩)
    (t1 : Step w 68 m1 (b3, 0) (b0, 0) (b1, 1)) (t2 : Step w 68 m2 (b4, 0) (b0, 1) (b1, 0)) (hs : Row w b 80 [stepV m1, stepV m2]) :
    Mach w0 6 2 (v6 b0 b1 b3 b4) (n5 m1 m2 0 0 0) PD b 0 (s8 a1 a2 c1 c2) w := by
  refine ⟨hb, fun j hj => ?_, fun m hm => ?_, fun m hm => ?_, hs.lt⟩
  · rcases six_cases hj with rfl | rfl | rfl | rfl | rfl | rfl
    · exact Var.of r0 rfl
    · exact Var.of r0 rfl
    · exact Var.of r1 rfl
    · exact Var.of r1 rfl
    · exact Var.of r3 rfl
    · exact Var.of r4 rfl
  · rcases two_cases hm with rfl | rfl
    · exact t1
    · exact t2
  · rw [Nat.zero_add, hs.cell]
    rcases two_cases hm with rfl | rfl <;> rfl
theorem end_PD (w w1 x1 x2 : World) {b0 b1 b2 b3 b4 : Nat} (a1 a2 c1 c2 : ByteArray) (T : TabI w)
    (R : Row w1 b0 23 [.string a1, .string a2] ∧ Row w1 b1 23 [.string c1, .string c2] ∧ Row w1 b2 23 [.string ⟨#[]⟩, .string ⟨#[]⟩] ∧ Box w1 b3 ⟨#[]⟩ ∧ Box w1 b4 ⟨#[]⟩ ∧ Below w.heap.size w w1 ∧ w1.heap.size = b4 + 1)
    (E : b1 = b0 + 1 ∧ b2 = b0 + 2 ∧ b3 = b0 + 3 ∧ b4 = b0 + 4 ∧ b0 = w.heap.size)
    (t1 : Step x1 68 w1.heap.size (b3, 0) (b0, 0) (b1, 1)) (g1 : Below w1.heap.size w1 x1)
    (t2 : Step x2 68 x1.heap.size (b4, 0) (b0, 1) (b1, 0)) (g2 : Below x1.heap.size x1 x2) :
    Calls Tryz.prog 66 #[ratV (a1, a2), ratV (c1, c2), ptrA (b3, 0), ptrA (b4, 0), .slice (some ⟨x2.heap.size, 0, none⟩) 2 2] (x2.alloc (.cells #[stepV w1.heap.size, stepV x1.heap.size] 80)) fun e w' =>
      e = .returned (resV (Ra.divO (Ra.val (a1, a2)) (Ra.val (c1, c2)))) ∧ Below w.heap.size w w' ∧ Row w' b0 23 [.string a1, .string a2] ∧ Row w' b1 23 [.string c1, .string c2] ∧ Row w' b2 23 [.string ⟨#[]⟩, .string ⟨#[]⟩] := by
  obtain ⟨q0, q1, q2, q3, q4, q7, q8⟩ := R
  have g5 : Below x2.heap.size x2 (x2.alloc (.cells #[stepV w1.heap.size, stepV x1.heap.size] 80)) := below_new6 (Below.refl _ _) _
  have hs : Row (x2.alloc (.cells #[stepV w1.heap.size, stepV x1.heap.size] 80)) x2.heap.size 80 [stepV w1.heap.size, stepV x1.heap.size] := Row.new _ _ _
  generalize x2.alloc (.cells #[stepV w1.heap.size, stepV x1.heap.size] 80) = ws at *
  have h2 := Below.andThen g2 g5
  have h1 := Below.andThen g1 h2
  have z1 := g1.size
  have z2 := g2.size
  have zs := hs.lt
  refine (finish_is w 6 2 2 _ _ _ x2.heap.size 0 _ ws T (by decide) (Nat.le_refl _) (lay_PD (b0 := b0) (b1 := b1) (b3 := b3) (b4 := b4) (m1 := w1.heap.size) (m2 := x1.heap.size) ⟨by omega, by omega, by omega, by omega⟩ (by omega) (by omega) (by omega))
    (mach_PD (Below.andThen q7 h1) (q0.next h1) (q1.next h1) (q3.next h1) (q4.next h1) (t1.next h2) (t2.next g5) hs) (a1, a2) (c1, c2) 4 5 (by decide) (by decide)
    (fun W => Row W b0 23 [.string a1, .string a2] ∧ Row W b1 23 [.string c1, .string c2] ∧ Row W b2 23 [.string ⟨#[]⟩, .string ⟨#[]⟩]) ⟨q0.next h1, q1.next h1, q2.next h1⟩ ?_ ?_ ?_ _ (comb_PD a1 a2 c1 c2).1 (comb_PD a1 a2 c1 c2).2).mono (fun _ _ h => h)
  · rintro W wm m v hm ⟨r0, r1, r2⟩ hb
    rcases two_cases hm with rfl | rfl
    · exact ⟨(r0.next hb).other (show b0 ≠ b3 by omega) _ _, (r1.next hb).other (show b1 ≠ b3 by omega) _ _, (r2.next hb).other (show b2 ≠ b3 by omega) _ _⟩
    · exact ⟨(r0.next hb).other (show b0 ≠ b4 by omega) _ _, (r1.next hb).other (show b1 ≠ b4 by omega) _ _, (r2.next hb).other (show b2 ≠ b4 by omega) _ _⟩
  · rintro W wm ⟨r0, r1, r2⟩ hb
    exact ⟨r0.next hb, r1.next hb, r2.next hb⟩
  · rintro W b o v hb ⟨r0, r1, r2⟩
    exact ⟨r0.other (by omega) _ _, r1.other (by omega) _ _, r2.other (by omega) _ _⟩
set_option maxRecDepth 100000 in
set_option maxHeartbeats 8000000 in
theorem Div_r (ra rb : ByteArray × ByteArray) (w : World) (T : TabI w) :
    Calls Tryz.prog 45 #[ratV ra, ratV rb] w fun e w' => e = .returned (resV (Ra.divO (Ra.val ra) (Ra.val rb))) ∧ Below w.heap.size w w' := by
  obtain ⟨a1, a2⟩ := ra
  obtain ⟨c1, c2⟩ := rb
  have HT := Lib.hid T
  obtain ⟨q1, q2, ec, htq⟩ : ∃ (q1 q2 : ByteArray) (ec : Int), resV (Ra.divO (Ra.val (a1, a2)) (Ra.val (c1, c2))) = .tuple #[ratV (q1, q2), .int .i64 ec] := by
    cases Ra.divO (Ra.val (a1, a2)) (Ra.val (c1, c2)) with
    | none => exact ⟨⟨#[]⟩, ⟨#[]⟩, 40, rfl⟩
    | some v => exact ⟨In.txt v.1, In.txt v.2, 0, rfl⟩
  rw [htq]
  have HQ := Lib.hid htq
  clear T htq
  go_enter Tryz.func45, Tryz.ntmps45
  go_upto_region 2 with (fail)
  refine wp_named fun w1 hw => ?_
  obtain ⟨b0, hb0⟩ : ∃ x, x = w.heap.size := ⟨_, rfl⟩
  obtain ⟨b1, hb1⟩ : ∃ x, x = w.heap.size + 1 := ⟨_, rfl⟩
  obtain ⟨b2, hb2⟩ : ∃ x, x = w.heap.size + 1 + 1 := ⟨_, rfl⟩
  obtain ⟨b3, hb3⟩ : ∃ x, x = w.heap.size + 1 + 1 + 1 := ⟨_, rfl⟩
  obtain ⟨b4, hb4⟩ : ∃ x, x = w.heap.size + 1 + 1 + 1 + 1 := ⟨_, rfl⟩
  have R1 : Row w1 b0 23 [.string a1, .string a2] ∧ Row w1 b1 23 [.string c1, .string c2] ∧ Row w1 b2 23 [.string ⟨#[]⟩, .string ⟨#[]⟩] ∧ Box w1 b3 ⟨#[]⟩ ∧ Box w1 b4 ⟨#[]⟩ ∧ Below w.heap.size w w1 ∧ w1.heap.size = b4 + 1 := by
    rw [hw, hb0, hb1, hb2, hb3, hb4]
    generalize hA0 : w.alloc (.cells #[.string a1, .string a2] 23) = A0
    have z0 : A0.heap.size = w.heap.size + 1 := by rw [← hA0]; simp
    have n0 : Row A0 w.heap.size 23 [.string a1, .string a2] := by rw [← hA0]; exact Row.new _ _ _
    have p0 : Below w.heap.size w A0 := by rw [← hA0]; exact (Below.refl _ _).alloc (Nat.le_refl _) _
    generalize hA1 : A0.alloc (.cells #[.string c1, .string c2] 23) = A1
    have z1 : A1.heap.size = w.heap.size + 1 + 1 := by rw [← hA1]; simp [z0]
    have n1 : Row A1 (w.heap.size + 1) 23 [.string c1, .string c2] := by rw [← z0, ← hA1]; exact Row.new _ _ _
    have p1 : Below A0.heap.size A0 A1 := by rw [← hA1]; exact (Below.refl _ _).alloc (Nat.le_refl _) _
    generalize hA2 : A1.alloc (.cells #[.string ⟨#[]⟩, .string ⟨#[]⟩] 23) = A2
    have z2 : A2.heap.size = w.heap.size + 1 + 1 + 1 := by rw [← hA2]; simp [z1]
    have n2 : Row A2 (w.heap.size + 1 + 1) 23 [.string ⟨#[]⟩, .string ⟨#[]⟩] := by rw [← z1, ← hA2]; exact Row.new _ _ _
    have p2 : Below A1.heap.size A1 A2 := by rw [← hA2]; exact (Below.refl _ _).alloc (Nat.le_refl _) _
    generalize hA3 : A2.alloc (.cells #[.string ⟨#[]⟩] 9) = A3
    have z3 : A3.heap.size = w.heap.size + 1 + 1 + 1 + 1 := by rw [← hA3]; simp [z2]
    have n3 : Box A3 (w.heap.size + 1 + 1 + 1) ⟨#[]⟩ := by rw [← z2, ← hA3]; exact Row.new _ _ _
    have p3 : Below A2.heap.size A2 A3 := by rw [← hA3]; exact (Below.refl _ _).alloc (Nat.le_refl _) _
    generalize hA4 : A3.alloc (.cells #[.string ⟨#[]⟩] 9) = A4
    have z4 : A4.heap.size = w.heap.size + 1 + 1 + 1 + 1 + 1 := by rw [← hA4]; simp [z3]
    have n4 : Box A4 (w.heap.size + 1 + 1 + 1 + 1) ⟨#[]⟩ := by rw [← z3, ← hA4]; exact Row.new _ _ _
    have p4 : Below A3.heap.size A3 A4 := by rw [← hA4]; exact (Below.refl _ _).alloc (Nat.le_refl _) _
    have k3 := p4
    have k2 := Below.andThen p3 k3
    have k1 := Below.andThen p2 k2
    have k0 := Below.andThen p1 k1
    exact ⟨n0.next k0, n1.next k1, n2.next k2, n3.next k3, n4, Below.andThen p0 k0, z4⟩
  rw [← hb4, ← hb3, ← hb2, ← hb1, ← hb0]
  have HE := Lib.hid (show b1 = b0 + 1 ∧ b2 = b0 + 2 ∧ b3 = b0 + 3 ∧ b4 = b0 + 4 ∧ b0 = w.heap.size from by omega)
  have HR := Lib.hid R1
  clear hw R1 hb0 hb1 hb2 hb3 hb4
  have CELLS := Lib.hid (fun (W : World) (h : Below w1.heap.size w1 W) => show W.cell? ⟨b0, 0, none⟩ = some (.string a1) ∧ W.cell? ⟨b0, 1, none⟩ = some (.string a2) ∧ W.cell? ⟨b1, 0, none⟩ = some (.string c1) ∧ W.cell? ⟨b1, 1, none⟩ = some (.string c2) from
    ⟨((HR.out.1.next h).cell 0).trans rfl, ((HR.out.1.next h).cell 1).trans rfl, ((HR.out.2.1.next h).cell 0).trans rfl, ((HR.out.2.1.next h).cell 1).trans rfl⟩)
  have hB0 : Below w1.heap.size w1 w1 := Below.refl _ _
  obtain ⟨k0, k1, k2, k3⟩ := CELLS.out w1 hB0
  obtain ⟨l0, l1, l2⟩ : b0 < w1.heap.size ∧ b1 < w1.heap.size ∧ b2 < w1.heap.size := ⟨HR.out.1.lt, HR.out.2.1.lt, HR.out.2.2.1.lt⟩
  have d02 : b0 ≠ b2 := by have := HE.out; omega
  have d12 : b1 ≠ b2 := by have := HE.out; omega
  (go_region_held3 (fun w' => w'.cell? ⟨b0, 0, none⟩ = some (.string a1) ∧ w'.cell? ⟨b0, 1, none⟩ = some (.string a2) ∧ w'.cell? ⟨b1, 0, none⟩ = some (.string c1) ∧ w'.cell? ⟨b1, 1, none⟩ = some (.string c2)) (first | exact ⟨by assumption, by assumption, by assumption, by assumption⟩ | exact CELLS.out _ (below_new6 (by assumption) _) | exact ⟨((World.cell?_setCell_far _ _ _ _ (fun e => d02 e.symm)).trans (World.cell?_setCell_far _ _ _ _ (fun e => d02 e.symm))).trans (by assumption), ((World.cell?_setCell_far _ _ _ _ (fun e => d02 e.symm)).trans (World.cell?_setCell_far _ _ _ _ (fun e => d02 e.symm))).trans (by assumption), ((World.cell?_setCell_far _ _ _ _ (fun e => d12 e.symm)).trans (World.cell?_setCell_far _ _ _ _ (fun e => d12 e.symm))).trans (by assumption), ((World.cell?_setCell_far _ _ _ _ (fun e => d12 e.symm)).trans (World.cell?_setCell_far _ _ _ _ (fun e => d12 e.symm))).trans (by assumption)⟩ | go_keep)
    (first
      | (go_at_call 67
         first
          | (refine Calls.mono (set_any_Mul (b3, 0) (b0, 0) (b1, 1) _) ?_; rintro e wx1 ⟨rfl, hs1, hbx1⟩
             have hB1 := Below.andThen (by first | assumption | exact Below.drew (by assumption) : Below w1.heap.size w1 _) hbx1
             obtain ⟨k10, k11, k12, k13⟩ := CELLS.out wx1 hB1)
          | (refine Calls.mono (set_any_Mul (b4, 0) (b0, 1) (b1, 0) _) ?_; rintro e wx2 ⟨rfl, hs2, hbx2⟩
             have hB2 := Below.andThen (by first | assumption | exact Below.drew (by assumption) : Below w1.heap.size w1 _) hbx2
             obtain ⟨k20, k21, k22, k23⟩ := CELLS.out wx2 hB2))
      | (go_at_call 66
         refine Calls.mono (end_PD w w1 wx1 wx2 a1 a2 c1 c2 HT.out HR.out HE.out hs1 hB1 hs2 hbx2) ?_
         rintro e wf ⟨hre, hbf, hrows⟩
         rw [HQ.out] at hre
         subst hre
         have HF := Lib.hid (And.intro hbf hrows)
         have c0 := (hrows.1.cell 0).trans (show _ = some (Value.string a1) from rfl)
         have c1' := (hrows.1.cell 1).trans (show _ = some (Value.string a2) from rfl)
         have c2' := (hrows.2.1.cell 0).trans (show _ = some (Value.string c1) from rfl)
         have c3 := (hrows.2.1.cell 1).trans (show _ = some (Value.string c2) from rfl)
         have r0 := (hrows.2.2.cell 0).trans (show _ = some (Value.string ⟨#[]⟩) from rfl)
         have r1 := (hrows.2.2.cell 1).trans (show _ = some (Value.string ⟨#[]⟩) from rfl)
         have f0 := hrows.2.2.frozen 0
         have f1 := hrows.2.2.frozen 1
         have lr := hrows.2.2.lt
         clear hbf hrows)))
  all_goals
    go_wp2_with fail
    have hle : w.heap.size ≤ b2 := by have := HE.out; omega
    refine bodyPost_ret (v := .tuple #[ratV (q1, q2), .int .i64 ec]) (by first | (simp [results, Tryz.results45, go_sem]; done) | simp [results, Tryz.results45, go_sem, *]) rfl ⟨rfl, (HF.out.1.setCell (p := ⟨b2, 0, none⟩) hle _).setCell (p := ⟨b2, 1, none⟩) hle _⟩
end Go.Proofs.YtlehjmanlccncaaGreatDoor
set_option linter.unusedVariables false
set_option linter.unusedSimpArgs false
namespace Go.Proofs.YtlehjmanlccncaaGreatDoor
open Go.RowKit

set_option maxRecDepth 100000 in
set_option maxHeartbeats 1000000 in
theorem is_any (n d : ByteArray) (w : World) :
    Calls Tryz.prog 41 #[.string n, .string d] w fun e w' => e = .returned (ratV (n, d)) ∧ Below w.heap.size w w' := by
  have HB := Lib.hid ((Below.refl w.heap.size w).alloc (Nat.le_refl _) (.cells #[.string n, .string d] 23))
  go_enter Tryz.func41, Tryz.ntmps41
  go_wp2_with fail
  refine bodyPost_ret (v := ratV (n, d)) (by first | (simp [results, Tryz.results41, go_sem]; done) | simp [results, Tryz.results41, go_sem, *]) rfl ⟨rfl, HB.out⟩
end Go.Proofs.YtlehjmanlccncaaGreatDoor
set_option linter.unusedVariables false
set_option linter.unusedSimpArgs false
namespace Go.Proofs.YtlehjmanlccncaaGreatDoor
open Go.RowKit

set_option maxRecDepth 100000 in
set_option maxHeartbeats 4000000 in
theorem Of_r (x y : Int) (w : World) (hx : -9223372036854775808 ≤ x ∧ x ≤ 9223372036854775807) (hy : -9223372036854775808 ≤ y ∧ y ≤ 9223372036854775807) (T : TabI w) :
    Calls Tryz.prog 31 #[.int .i64 x, .int .i64 y] w fun e w' => e = .returned (resV (Ra.redO True x y)) ∧ Below w.heap.size w w' := by
  have hm : Ra.makeS (In.txt x) (In.txt y) = Ra.redO True x y := by
    unfold Ra.makeS
    rw [In.num_fit (Fit_int hx), In.num_fit (Fit_int hy)]
  have CM := Lib.hid (fun W T => Make_r (In.txt x) (In.txt y) W T)
  rw [hm] at CM
  have HT := Lib.hid T
  have F1 := Lib.hid (fun W T => FromInt_any x W hx T)
  have F2 := Lib.hid (fun W T => FromInt_any y W hy T)
  obtain ⟨q1, q2, ec, htq⟩ : ∃ (q1 q2 : ByteArray) (ec : Int), resV (Ra.redO True x y) = .tuple #[ratV (q1, q2), .int .i64 ec] := by
    cases Ra.redO True x y with
    | none => exact ⟨⟨#[]⟩, ⟨#[]⟩, 40, rfl⟩
    | some v => exact ⟨In.txt v.1, In.txt v.2, 0, rfl⟩
  rw [htq] at CM ⊢
  generalize In.txt x = tx at *
  generalize In.txt y = ty at *
  clear T htq hm hx hy
  go_enter Tryz.func31, Tryz.ntmps31
  go_upto_region 1 with (fail)
  refine wp_named fun w1 hw => ?_
  obtain ⟨b2, hb2⟩ : ∃ x, x = w.heap.size := ⟨_, rfl⟩
  have HR := Lib.hid (show Row w1 b2 23 [.string ⟨#[]⟩, .string ⟨#[]⟩] ∧ Below w.heap.size w w1 ∧ w.heap.size ≤ b2 from by rw [hw, hb2]; exact ⟨Row.new _ _ _, (Below.refl _ _).alloc (Nat.le_refl _) _, Nat.le_refl _⟩)
  rw [← hb2]
  clear hw hb2
  go_wp2_with fail
  with_reducible refine Calls.mono (F1.out _ (TabI.next HT.out HR.out.2.1)) ?_
  rintro e w2 ⟨rfl, hb⟩
  have HA := Lib.hid (And.intro (HR.out.1.next hb) (Below.andThen HR.out.2.1 hb))
  clear hb
  go_wp2_with fail
  with_reducible refine Calls.mono (F2.out _ (TabI.next HT.out HA.out.2)) ?_
  rintro e w3 ⟨rfl, hb⟩
  have HB := Lib.hid (And.intro (HA.out.1.next hb) (Below.andThen HA.out.2 hb))
  clear hb
  go_wp2_with fail
  with_reducible refine Calls.mono (CM.out _ (TabI.next HT.out HB.out.2)) ?_
  rintro e w4 ⟨rfl, hb⟩
  have HX := Lib.hid (And.intro (HB.out.1.next hb) (Below.andThen HB.out.2 hb))
  have r0 := (HX.out.1.cell 0).trans (show _ = some (Value.string ⟨#[]⟩) from rfl)
  have r1 := (HX.out.1.cell 1).trans (show _ = some (Value.string ⟨#[]⟩) from rfl)
  have f0 := HX.out.1.frozen 0
  have f1 := HX.out.1.frozen 1
  have lr := HX.out.1.lt
  clear hb
  go_wp2_with fail
  refine bodyPost_ret (v := .tuple #[ratV (q1, q2), .int .i64 ec]) (by first | (simp [results, Tryz.results31, go_sem]; done) | simp [results, Tryz.results31, go_sem, *]) rfl ⟨rfl, (HX.out.2.setCell (p := ⟨b2, 0, none⟩) HR.out.2.2 _).setCell (p := ⟨b2, 1, none⟩) HR.out.2.2 _⟩
end Go.Proofs.YtlehjmanlccncaaGreatDoor
