/- What the statements on disks share. -/
import Derived.Test.YtgmghfgcpjpigaaDiskL
import Derived.Test.YtgmghfgcpjpigaaLaid
import Derived.Deep.DeepCutAuto
namespace Go.Proofs.Ytgmghfgcpjpigaa
open Go.RowKit Go.ChangeShapes Go.WideShapes Go.ChangeAt
theorem own : ownKnob Try.prog.godebug = none := by kernel_rfl
theorem laidOut : laidOutB Try.prog = true := by kernel_rfl
/-- A world for the witness. -/
noncomputable def laidWorld (os : Os) : World := World.holding Try.prog os ⟨#[], #[], []⟩

theorem write_plain {s : DS} {n : Nat} (hg : s.Good n) (ho : s.off = false) (ha : s.after = 0) {o : Nat} {t : ByteArray} (hf : o + t.size ≤ n) :
    s.writeE o t = 0 ∧ s.writeS o t = { s with pend := s.pend ++ [(o, t)], vis := over s.vis o t.data.toList } := by
  have hw : within s.sure.length o t.size = true := (within_iff _ _ _).2 (by rw [hg.sure]; omega)
  constructor
  · simp [DS.writeE, ho, hw]
  · simp [DS.writeS, DS.writeOk, ho, hw, DS.spend, ha]
theorem sync_plain {s : DS} (ho : s.off = false) : s.powE = 0 ∧ s.syncS = { s with sure := s.vis, pend := [] } := by simp [DS.powE, DS.syncS, ho]
theorem read_plain {s : DS} {n : Nat} (hg : s.Good n) (ho : s.off = false) : s.readE 0 n = 0 ∧ s.readV 0 n = ⟨s.vis.toArray⟩ := by
  have hw : within s.sure.length 0 n = true := (within_iff _ _ _).2 (by rw [hg.sure]; omega)
  constructor
  · simp [DS.readE, ho, hw]
  · have e : s.vis.take n = s.vis := List.take_of_length_le (by rw [hg.vis]; exact Nat.le_refl _)
    simp [DS.readV, DS.readOk, ho, hw, e]

theorem Row.textAll {P : Program} {w : World} {b : Nat} {t : TypeId} {l : List UInt8} {n : Nat} (h : Row w b t (l.map byteV)) (hl : l.length = n) (src dst e : TypeId) (cap : Nat) (hs : P.underlying src = some (.slice e)) (he : P.underlying e = some (.int .u8)) (hd : P.underlying dst = some .string) :
    (convert src dst (.slice (some ⟨b, 0, none⟩) n cap)).run P w = .ok (.string ⟨l.toArray⟩) w := by
  have := Row.textAt (P := P) h src dst e 0 n cap (by omega) hs he hd
  have e1 : (l.drop 0).take n = l := by rw [List.drop_zero]; exact List.take_of_length_le (by omega)
  rwa [e1] at this
section
variable {W0 w w' : World} {F F' S : Nat → Prop} {D n b : Nat} {s s' : DS} {t : TypeId} {C : List Value}
theorem On.only (h : On W0 w F D n s) (hb : Only S w w') (hS : ∀ k, S k → ¬ F k) (hm : ∀ k, S k → W0.heap.size ≤ k) : On W0 w' F D n s := ⟨h.disk.only hb hS, h.mine, h.below.trans (hb.below h.below.size hm)⟩
/-- a block that is none of the disk's stays none of the disk's -/
theorem still {k : Nat} (hF : ∀ k, F' k → F k ∨ w.heap.size ≤ k) (hk : k < w.heap.size) (h : ¬ F k) : ¬ F' k := fun h' => (hF k h').elim h (by omega)
end
set_option maxHeartbeats 400000 in
theorem read_nil (a n : Int) (w : World) : Calls Try.prog 14 #[.pointer none, .int .i64 a, .int .i64 n] w fun e w' => e = .returned (.tuple #[.string ⟨#[]⟩, .int .i64 1]) ∧ w = w' := by
  go_enter Try.func14, Try.ntmps14
  go_wp2_with fail
  refine (ready_nil _).mono ?_
  rintro e w1 ⟨rfl, rfl⟩
  go_wp2
  go_ret2
  exact ⟨rfl, rfl⟩
set_option maxHeartbeats 400000 in
theorem write_nil (a : Int) (s : ByteArray) (w : World) : Calls Try.prog 21 #[.pointer none, .int .i64 a, .string s] w fun e w' => e = .returned (.int .i64 1) ∧ w = w' := by
  go_enter Try.func21, Try.ntmps21
  go_wp2_with fail
  refine (ready_nil _).mono ?_
  rintro e w1 ⟨rfl, rfl⟩
  go_wp2
  go_ret
  exact ⟨rfl, rfl⟩
set_option maxHeartbeats 400000 in
theorem sync_nil (w : World) : Calls Try.prog 23 #[.pointer none] w fun e w' => e = .returned (.int .i64 1) ∧ w = w' := by
  go_enter Try.func23, Try.ntmps23
  go_wp2_with fail
  refine (ready_nil _).mono ?_
  rintro e w1 ⟨rfl, rfl⟩
  go_wp2
  go_ret
  exact ⟨rfl, rfl⟩
set_option maxHeartbeats 400000 in
theorem cutd_nil (n : Int) (w : World) : Calls Try.prog 24 #[.pointer none, .int .i64 n] w fun e w' => e = .returned (.int .i64 1) ∧ w = w' := by
  go_enter Try.func24, Try.ntmps24
  go_wp2_with fail
  refine (ready_nil _).mono ?_
  rintro e w1 ⟨rfl, rfl⟩
  go_wp2
  go_ret
  exact ⟨rfl, rfl⟩
set_option maxHeartbeats 400000 in
theorem pending_nil (w : World) : Calls Try.prog 17 #[.pointer none] w fun e w' => e = .returned (.int .i64 0) ∧ w = w' := by
  go_enter Try.func17, Try.ntmps17
  go_wp2
  go_ret
  exact ⟨rfl, rfl⟩
set_option maxHeartbeats 400000 in
theorem size_nil (w : World) : Calls Try.prog 16 #[.pointer none] w fun e w' => e = .returned (.int .i64 0) ∧ w = w' := by
  go_enter Try.func16, Try.ntmps16
  go_wp2
  go_ret
  exact ⟨rfl, rfl⟩
end Go.Proofs.Ytgmghfgcpjpigaa
