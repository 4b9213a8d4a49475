/- Arrays of fractions and of errors: a comparison with itself. -/
import Derived.Test.YtlehjmanlccncaaGreatDoorRatFA
import Derived.ChangeKeysEq
import Derived.Laws.StructEq
set_option linter.unusedVariables false
set_option linter.unusedSimpArgs false
namespace Go.Proofs.YtlehjmanlccncaaGreatDoor
open Go.RowKit
set_option maxRecDepth 100000
theorem bytes_self (a : ByteArray) : (a == a) = true := by
  show (a.data == a.data) = true
  simp
theorem eq_ratio (w : World) (a b : ByteArray) : (Op.equalIn 9999 23 (.agg #[.string a, .string b]) (.agg #[.string a, .string b])).run Tryz.prog w = .ok true w := by
  show (Op.equalIn (9997 + 1 + 1) 23 (.agg #[.string a, .string b]) (.agg #[.string a, .string b])).run Tryz.prog w = .ok true w
  generalize 9997 = d
  simp [Op.equalIn, go_sem, bytes_self]
theorem eq_errno (w : World) (a : Int) : (Op.equalIn 9999 32 (.int .i64 a) (.int .i64 a)).run Tryz.prog w = .ok true w := by
  show (Op.equalIn (9998 + 1) 32 (.int .i64 a) (.int .i64 a)).run Tryz.prog w = .ok true w
  generalize 9998 = d
  simp [Op.equalIn, go_sem]
theorem eq_rats (w : World) (a b c d e f g h : ByteArray) : (binOp .neq 31 (.agg #[.string a, .string b, .string c, .string d, .string e, .string f, .string g, .string h]) (.agg #[.string a, .string b, .string c, .string d, .string e, .string f, .string g, .string h])).run Tryz.prog w = .ok (.bool false) w := by
  have hu : Tryz.prog.underlying 31 = some (.array 4 23) := by kernel_rfl
  obtain ⟨i, hi⟩ : ∃ i, Tryz.prog.info? 23 = some i := ⟨_, rfl⟩
  have hc : Tryz.prog.cellsOf 23 = 2 := by kernel_rfl
  have hr : List.range 4 = [0, 1, 2, 3] := rfl
  have key := run_equalIn_array (P := Tryz.prog) w 9999 #[.string a, .string b, .string c, .string d, .string e, .string f, .string g, .string h] #[.string a, .string b, .string c, .string d, .string e, .string f, .string g, .string h] hu hi
  rw [hc, hr] at key
  rw [run_neq_struct]
  rw [show (10000 : Nat) = 9999 + 1 from rfl, key]
  clear key hi hu
  simp only [Op.eqItems, Sem.run_bind]
  simp [go_sem, eq_ratio]
theorem eq_errs (w : World) (a b c d : Int) : (binOp .neq 33 (.agg #[.int .i64 a, .int .i64 b, .int .i64 c, .int .i64 d]) (.agg #[.int .i64 a, .int .i64 b, .int .i64 c, .int .i64 d])).run Tryz.prog w = .ok (.bool false) w := by
  have hu : Tryz.prog.underlying 33 = some (.array 4 32) := by kernel_rfl
  obtain ⟨i, hi⟩ : ∃ i, Tryz.prog.info? 32 = some i := ⟨_, rfl⟩
  have hc : Tryz.prog.cellsOf 32 = 1 := by kernel_rfl
  have hr : List.range 4 = [0, 1, 2, 3] := rfl
  have key := run_equalIn_array (P := Tryz.prog) w 9999 #[.int .i64 a, .int .i64 b, .int .i64 c, .int .i64 d] #[.int .i64 a, .int .i64 b, .int .i64 c, .int .i64 d] hu hi
  rw [hc, hr] at key
  rw [run_neq_struct]
  rw [show (10000 : Nat) = 9999 + 1 from rfl, key]
  clear key hi hu
  simp only [Op.eqItems, Sem.run_bind]
  simp [go_sem, eq_errno]
end Go.Proofs.YtlehjmanlccncaaGreatDoor
