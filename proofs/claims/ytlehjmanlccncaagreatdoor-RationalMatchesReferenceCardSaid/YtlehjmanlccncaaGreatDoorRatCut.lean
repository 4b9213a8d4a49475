/- Helpers of the laws: cut. -/
import Derived.Test.YtlehjmanlccncaaGreatDoorRatGB
import Derived.Test.YtlehjmanlccncaaGreatDoorFloatG
import Derived.Lib.MinMax
set_option linter.unusedVariables false
set_option linter.unusedSimpArgs false
namespace Go.Proofs.YtlehjmanlccncaaGreatDoor
open Go.RowKit

def cutB (s : ByteArray) (n : Int) : ByteArray := s.extract 0 (min (s.size : Int) n).toNat
theorem cutB_size (s : ByteArray) {n : Int} (h : 0 ≤ n) : ((cutB s n).size : Int) ≤ n := by
  unfold cutB
  rw [ByteArray.size_extract]
  omega
set_option maxRecDepth 100000 in
set_option maxHeartbeats 4000000 in
theorem cut_r (r : ByteArray × ByteArray) (w : World) :
    Calls Tryz.prog 12 #[ratV r] w fun e w' => e = .returned (ratV (cutB r.1 210, cutB r.2 210)) ∧ Below w.heap.size w w' := by
  obtain ⟨a1, a2⟩ := r
  show Calls _ _ _ _ fun e w' => e = .returned (ratV (a1.extract 0 (min (a1.size : Int) 210).toNat, a2.extract 0 (min (a2.size : Int) 210).toNat)) ∧ Below w.heap.size w w'
  go_enter Tryz.func12, Tryz.ntmps12
  go_upto_region 1 with (fail)
  refine wp_named fun w1 hq => ?_
  obtain ⟨bA, ebA⟩ : ∃ b, b = w.heap.size := ⟨_, rfl⟩
  obtain ⟨bZ, ebZ⟩ : ∃ b, b = w.heap.size + 1 := ⟨_, rfl⟩
  have R1 : Row w1 bA 23 [.string a1, .string a2] ∧ Row w1 bZ 23 [.string ⟨#[]⟩, .string ⟨#[]⟩] ∧ Below w.heap.size w w1 := by
    rw [hq, ebA, ebZ]
    refine ⟨(Row.new w _ [.string a1, .string a2]).alloc _, ?_, ((Below.refl _ _).alloc (Nat.le_refl _) _).alloc (by simp) _⟩
    have h := Row.new (w.alloc (.cells #[.string a1, .string a2] 23)) 23 [.string ⟨#[]⟩, .string ⟨#[]⟩]
    rw [World.size_alloc] at h
    exact h
  rw [← ebZ, ← ebA]
  have HL := Lib.hid (show w.heap.size ≤ bZ from by omega)
  have A := Lib.hid R1.1
  have Z := Lib.hid R1.2.1
  have BB := Lib.hid R1.2.2
  clear hq R1 ebA ebZ
  obtain ⟨cA0, cA1⟩ := A.out.two
  have lA := A.out.lt
  have m1 : 0 ≤ min (a1.size : Int) 210 := by omega
  have m2 : min (a1.size : Int) 210 ≤ a1.size := by omega
  have m3 : 0 ≤ min (a2.size : Int) 210 := by omega
  have m4 : min (a2.size : Int) 210 ≤ a2.size := by omega
  refine wp_region_kin_tail 15 (by kernel_rfl) (by kernel_rfl) w1.heap.size 0 (by simp) (fun hk => ?_)
  simp only [List.take_succ_cons, List.take_zero, List.drop_succ_cons, List.drop_zero]
  repeat (go_big_quiet_step (fail))
  refine wpQuiet_nil ?_
  clear hk
  intro w2 hb
  replace Z := Lib.hid (Z.out.next hb)
  replace BB := Lib.hid (Below.andThen BB.out hb)
  clear hb
  clear cA0 cA1 lA
  obtain ⟨cZ0, cZ1⟩ := Z.out.two
  have lZ := Z.out.lt
  have f0 := Z.out.frozen 0
  have f1 := Z.out.frozen 1
  go_wp2_with fail
  refine bodyPost_ret (v := ratV (a1.extract 0 (min (a1.size : Int) 210).toNat, a2.extract 0 (min (a2.size : Int) 210).toNat)) (by first | (simp [results, Tryz.results12, go_sem]; done) | simp [results, Tryz.results12, go_sem, *]) rfl ⟨rfl, (BB.out.setCell (p := ⟨bZ, 0, none⟩) HL.out _).setCell (p := ⟨bZ, 1, none⟩) HL.out _⟩
end Go.Proofs.YtlehjmanlccncaaGreatDoor
