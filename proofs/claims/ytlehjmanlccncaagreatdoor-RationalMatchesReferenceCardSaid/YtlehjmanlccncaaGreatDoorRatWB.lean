/- Helpers of the laws: minus. -/
import Derived.Test.YtlehjmanlccncaaGreatDoorRatGB
import Derived.Test.YtlehjmanlccncaaGreatDoorRatGD
import Derived.Test.YtlehjmanlccncaaGreatDoorFloatG
set_option linter.unusedVariables false
set_option linter.unusedSimpArgs false
namespace Go.Proofs.YtlehjmanlccncaaGreatDoor
open Go.RowKit

set_option maxRecDepth 100000 in
set_option maxHeartbeats 4000000 in
theorem minus_r (r : ByteArray × ByteArray) (w : World) (T : RW w) :
    Calls Tryz.prog 42 #[ratV r] w fun e w' => e = .returned (ratV (Ra.tx (Ra.subO (Ra.val (⟨#[48]⟩, ⟨#[49]⟩)) (Ra.val r)))) ∧ Below w.heap.size w w' := by
  have CC := Lib.hid (fun W (T : RW W) => Sub_r (⟨#[48]⟩, ⟨#[49]⟩) r W T.tab)
  have CI := Lib.hid is_any
  obtain ⟨a1, a2⟩ := r
  have HT := Lib.hid T
  have BB := Lib.hid (Below.refl w.heap.size w)
  obtain ⟨q1, q2, ec, htq, htx⟩ : ∃ (q1 q2 : ByteArray) (ec : Int), resV (Ra.subO (Ra.val (⟨#[48]⟩, ⟨#[49]⟩)) (Ra.val (a1, a2))) = .tuple #[ratV (q1, q2), .int .i64 ec] ∧ Ra.tx (Ra.subO (Ra.val (⟨#[48]⟩, ⟨#[49]⟩)) (Ra.val (a1, a2))) = (q1, q2) := ⟨_, _, _, rfl, rfl⟩
  rw [htq] at CC
  rw [htx]
  clear T htq htx
  go_enter Tryz.func42, Tryz.ntmps42
  go_upto_region 1 with (fail)
  refine wp_named fun w1 hw => ?_
  obtain ⟨b0, hb0⟩ : ∃ x, x = w.heap.size := ⟨_, rfl⟩
  obtain ⟨b2, hb2⟩ : ∃ x, x = w.heap.size + 1 := ⟨_, rfl⟩
  have R1 : Row w1 b0 23 [.string a1, .string a2] ∧ Row w1 b2 23 [.string ⟨#[]⟩, .string ⟨#[]⟩] ∧ Below w.heap.size w w1 := by
    rw [hw, hb0, hb2]
    refine ⟨(Row.new w _ [.string a1, .string a2]).alloc _, ?_, ((Below.refl _ _).alloc (Nat.le_refl _) _).alloc (by simp) _⟩
    have h := Row.new (w.alloc (.cells #[.string a1, .string a2] 23)) 23 [.string ⟨#[]⟩, .string ⟨#[]⟩]
    rw [World.size_alloc] at h
    exact h
  rw [← hb2, ← hb0]
  have HL := Lib.hid (show w.heap.size ≤ b2 by omega)
  have A := Lib.hid R1.1
  have Z := Lib.hid R1.2.1
  replace HT := Lib.hid (HT.out.next R1.2.2)
  replace BB := Lib.hid R1.2.2
  clear hw R1 hb0 hb2
  obtain ⟨cA0, cA1⟩ := A.out.two
  have lA := A.out.lt
  refine wp_region_late_float 5 [7] 6 7 _ (.cells #[.string ⟨#[]⟩, .string ⟨#[]⟩] 23) (by kernel_rfl) (by kernel_rfl) (fun dst _ _ _ _ h => by cases dst <;> exact h) (by kernel_rfl) (by kernel_rfl) rfl rfl (fun ρ w1 => by go_simp) w1.heap.size 0 (by simp) (fun WW hk hWW => ?_)
  simp only [List.take_succ_cons, List.take_zero, List.drop_succ_cons, List.drop_zero, List.cons_append, List.nil_append]
  repeat (go_big_quiet_step (first | (go_at_call 41; with_reducible exact Calls.kin (CI.out _ _ _)) | (go_at_call 40; with_reducible exact Calls.kin (CC.out _ ((HT.out.next hWW).next (Kin.below _))))))
  refine wpQuiet_nil ?_
  clear hk hWW
  intro w2 b3 hfb hfl hfo
  obtain ⟨ocb3, ofb3⟩ := block_cells hfo
  have osb3 := block_lt hfo
  have HFB := Lib.hid hfb
  have HFL := Lib.hid hfl
  have HFO := Lib.hid (show Row w2 b3 23 [.string ⟨#[]⟩, .string ⟨#[]⟩] from hfo)
  clear hfo hfb hfl
  simp only [Act.put, List.setIfInBounds_toArray, List.set_cons_zero, List.set_cons_succ]
  
  clear cA0 cA1 lA
  go_upto_region 2 with (fail)
  refine wp_named fun v2 hq => ?_
  have S := Lib.hid (show Row v2 b3 23 [.string q1, .string q2] from by rw [hq]; exact (HFO.out.set 0 (.string q1)).set 1 (.string q2))
  have hb : Below w1.heap.size w1 v2 := by rw [hq]; exact (HFB.out.setCell (p := ⟨b3, 0, none⟩) HFL.out _).setCell (p := ⟨b3, 1, none⟩) HFL.out _
  replace HT := Lib.hid (HT.out.next hb)
  replace Z := Lib.hid (Z.out.next hb)
  replace BB := Lib.hid (Below.andThen BB.out hb)
  clear hq hb HFO HFB HFL ocb3 ofb3 osb3
  obtain ⟨cS0, cS1⟩ := S.out.two
  have lS := S.out.lt
  obtain ⟨cZ0, cZ1⟩ := Z.out.two
  have lZ := Z.out.lt
  have f0 := Z.out.frozen 0
  have f1 := Z.out.frozen 1
  go_wp2_with fail
  refine bodyPost_ret (v := ratV (q1, q2)) (by first | (simp [results, Tryz.results42, go_sem]; done) | simp [results, Tryz.results42, go_sem, *]) rfl ⟨rfl, (BB.out.setCell (p := ⟨b2, 0, none⟩) HL.out _).setCell (p := ⟨b2, 1, none⟩) HL.out _⟩
end Go.Proofs.YtlehjmanlccncaaGreatDoor
