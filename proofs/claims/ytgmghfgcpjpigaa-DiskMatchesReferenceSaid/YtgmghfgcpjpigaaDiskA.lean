/- The small calls of package disk. -/
import Derived.Test.YtgmghfgcpjpigaaDiskMem
import Derived.Test.YtgmghfgcpjpigaaRegion
namespace Go.Proofs.Ytgmghfgcpjpigaa
open Go.RowKit

theorem retv {v v' : Value} (h : v = v') : Ending.returned v = .returned v' := by rw [h]
theorem vint {k : IntKind} {a b : Int} (h : a = b) : Value.int k a = .int k b := by rw [h]
theorem vbool {a b : Bool} (h : a = b) : Value.bool a = .bool b := by rw [h]

abbrev at_ (D : Nat) : Value := .pointer (some ⟨D, 0, none⟩)

set_option maxHeartbeats 400000 in
theorem ready_any (D : Nat) (off : Bool) (w : World) (h : w.cell? ⟨D, 0, none⟩ = some (.bool off)) :
    Calls Try.prog 28 #[at_ D] w fun e w' => e = .returned (.int .i64 (if off then 331 else 0)) ∧ w = w' := by
  cases off
  all_goals
    go_enter Try.func28, Try.ntmps28
    go_wp2
    go_ret
    exact ⟨rfl, rfl⟩
set_option maxHeartbeats 400000 in
theorem ready_nil (w : World) :
    Calls Try.prog 28 #[.pointer none] w fun e w' => e = .returned (.int .i64 1) ∧ w = w' := by
  go_enter Try.func28, Try.ntmps28
  go_wp2
  go_ret
  exact ⟨rfl, rfl⟩

set_option maxHeartbeats 400000 in
theorem within_any (D n : Nat) (o : Option Addr) (a b : Int) (w : World) (h : w.cell? ⟨D, 2, none⟩ = some (.slice o n n)) (hn : n ≤ 4194304) (ha : -9223372036854775808 ≤ a ∧ a ≤ 9223372036854775807) (hb : -9223372036854775808 ≤ b ∧ b ≤ 9223372036854775807) :
    Calls Try.prog 29 #[at_ D, .int .i64 a, .int .i64 b] w fun e w' => e = .returned (.bool (within n a b)) ∧ w = w' := by
  go_enter Try.func29, Try.ntmps29
  go_wp2
  all_goals
    go_ret
    refine ⟨retv (vbool ?_), rfl⟩
    first | (simp [within, *]; done) | (simp [within, *]; omega)

theorem row5 {w : World} {D : Nat} {c0 c1 c2 c3 c4 : Value} {t : TypeId} (h : Row w D t [c0, c1, c2, c3, c4]) : w.cell? ⟨D, 0, none⟩ = some c0 ∧ w.cell? ⟨D, 1, none⟩ = some c1 ∧ w.cell? ⟨D, 2, none⟩ = some c2 ∧ w.cell? ⟨D, 3, none⟩ = some c3 ∧ w.cell? ⟨D, 4, none⟩ = some c4 ∧ ∀ j, w.frozen? ⟨D, j, none⟩ = false :=
  ⟨h.cell 0, h.cell 1, h.cell 2, h.cell 3, h.cell 4, h.frozen⟩

/-- a call that writes to the block D alone, which then holds C -/
def Sets (w w' : World) (D : Nat) (t : TypeId) (C : List Value) : Prop := Only (fun k => k = D) w w' ∧ Row w' D t C

set_option maxHeartbeats 400000 in
theorem lose_any (D : Nat) (c0 c1 c2 c3 c4 : Value) (w : World) (h : Row w D 65 [c0, c1, c2, c3, c4]) :
    Calls Try.prog 37 #[at_ D] w fun e w' => e = .returned (.tuple #[]) ∧ Sets w w' D 65 [.bool true, .int .i64 0, c2, c3, c4] := by
  obtain ⟨h0, h1, _, _, _, hf⟩ := row5 h
  have H := Lib.hid h
  clear h
  go_enter Try.func37, Try.ntmps37
  go_wp2
  go_end0
  refine ⟨rfl, ?_, ?_⟩
  · refine Only.setCell (Only.setCell (Only.refl _ _) ?_ _) ?_ _ <;> exact .inl rfl
  · exact (H.out.set 0 _).set 1 _
set_option maxHeartbeats 400000 in
theorem restore_any (D : Nat) (c0 c1 c2 c3 c4 : Value) (w : World) (h : Row w D 65 [c0, c1, c2, c3, c4]) :
    Calls Try.prog 38 #[at_ D] w fun e w' => e = .returned (.tuple #[]) ∧ Sets w w' D 65 [.bool false, .int .i64 0, c2, c3, c4] := by
  obtain ⟨h0, h1, _, _, _, hf⟩ := row5 h
  have H := Lib.hid h
  clear h
  go_enter Try.func38, Try.ntmps38
  go_wp2
  go_end0
  refine ⟨rfl, ?_, ?_⟩
  · refine Only.setCell (Only.setCell (Only.refl _ _) ?_ _) ?_ _ <;> exact .inl rfl
  · exact (H.out.set 0 _).set 1 _
set_option maxHeartbeats 400000 in
theorem spend_any (D : Nat) (s : DS) (c2 c3 c4 : Value) (w : World) (ha : s.after ≤ 9223372036854775807) (h : Row w D 65 [.bool s.off, .int .i64 s.after, c2, c3, c4]) :
    Calls Try.prog 35 #[at_ D] w fun e w' => e = .returned (.tuple #[]) ∧ Sets w w' D 65 [.bool s.spend.off, .int .i64 s.spend.after, c2, c3, c4] := by
  obtain ⟨sure, vis, pend, off, after⟩ := s
  dsimp only at h ha ⊢
  unfold DS.spend
  dsimp only
  rcases show after = 0 ∨ after = 1 ∨ ¬ after = 0 ∧ ¬ after = 1 by omega with rfl | rfl | ⟨n0, n1⟩
  · obtain ⟨h0, h1, _, _, _, hf⟩ := row5 h
    have H := Lib.hid h
    clear h
    go_enter Try.func35, Try.ntmps35
    go_wp2
    refine bodyPost_ret (results_none rfl _ _ _) rfl ?_
    exact ⟨rfl, Only.refl _ _, H.out⟩
  · obtain ⟨h0, h1, _, _, _, hf⟩ := row5 h
    have H := Lib.hid h
    have L := Lib.hid (lose_any D (.bool off) (.int .i64 (0 : Nat)) c2 c3 c4 _ (H.out.set 1 (.int .i64 (0 : Nat))))
    clear h
    go_enter Try.func35, Try.ntmps35
    go_wp2_with fail
    refine L.out.mono ?_
    rintro e w1 ⟨rfl, ho, hr⟩
    go_wp2
    go_end0
    refine ⟨rfl, Only.trans (Only.setCell (Only.refl _ _) ?_ _) ho (fun j hj => .inl hj), hr⟩
    exact .inl rfl
  · obtain ⟨h0, h1, _, _, _, hf⟩ := row5 h
    have H := Lib.hid h
    have e : ((after - 1 : Nat) : Int) = (after : Int) - 1 := by omega
    rw [if_neg n0, if_neg n1]
    dsimp only
    rw [e]
    clear h e
    go_enter Try.func35, Try.ntmps35
    go_wp2
    go_end0
    refine ⟨rfl, Only.setCell (Only.refl _ _) ?_ _, H.out.set 1 _⟩
    exact .inl rfl

set_option maxHeartbeats 400000 in
theorem size_any (D n : Nat) (o : Option Addr) (w : World) (h : w.cell? ⟨D, 2, none⟩ = some (.slice o n n)) :
    Calls Try.prog 16 #[at_ D] w fun e w' => e = .returned (.int .i64 n) ∧ w = w' := by
  go_enter Try.func16, Try.ntmps16
  go_wp2
  go_ret
  exact ⟨rfl, rfl⟩
set_option maxHeartbeats 400000 in
theorem pending_any (D n c : Nat) (o : Option Addr) (w : World) (h : w.cell? ⟨D, 4, none⟩ = some (.slice o n c)) :
    Calls Try.prog 17 #[at_ D] w fun e w' => e = .returned (.int .i64 n) ∧ w = w' := by
  go_enter Try.func17, Try.ntmps17
  go_wp2
  go_ret
  exact ⟨rfl, rfl⟩
end Go.Proofs.Ytgmghfgcpjpigaa
