/- The tongues: which words are parts, what a tongue is made of. -/
import Derived.Test.YtebdpdmkehfgfaaDoorWoM
set_option linter.unusedVariables false
set_option linter.unusedSimpArgs false
namespace Go.Proofs.YtebdpdmkehfgfaaDoor
open Go.RowKit
namespace Wo
abbrev fnV (f : FuncId) : Value := .func (.func f) #[] #[]
def tongV : Nat → Value
  | 0 => .agg #[fnV 53, fnV 54, fnV 55]
  | 1 => .agg #[fnV 56, fnV 57, fnV 58]
  | _ => .agg #[fnV 59, fnV 60, fnV 61]
theorem beq_dec (a b : B) : (a == b) = decide (a = b) := by by_cases h : a = b <;> simp [h]
theorem part0_any (s : B) (w : World) : Calls Tryd.prog 55 #[.string (bs s)] w fun e w' => e = .returned (.bool (part 0 s)) ∧ w = w' := by
  have e : part 0 s = (decide (s = hundred) || decide (s = thousand)) := by
    show (s == hundred || s == thousand) = _
    rw [beq_dec, beq_dec]
  rw [e]
  have b1 : ((bs s).toList == ([104, 117, 110, 100, 114, 101, 100] : List UInt8)) = decide (s = hundred) := beq_lit s hundred
  have b2 : ((bs s).toList == ([116, 104, 111, 117, 115, 97, 110, 100] : List UInt8)) = decide (s = thousand) := beq_lit s thousand
  cases h1 : decide (s = hundred)
  · rw [h1] at b1
    cases h2 : decide (s = thousand)
    all_goals
      rw [h2] at b2
      clear h1 h2 e
      go_enter Tryd.func55, Tryd.ntmps55
      go_wp2_with fail
      go_ret
      exact ⟨rfl, rfl⟩
  · rw [h1] at b1
    clear h1 b2 e
    go_enter Tryd.func55, Tryd.ntmps55
    go_wp2_with fail
    go_ret
    exact ⟨rfl, rfl⟩
theorem part1_any (s : B) (w : World) : Calls Tryd.prog 58 #[.string (bs s)] w fun e w' => e = .returned (.bool (part 1 s)) ∧ w = w' := by
  go_enter Tryd.func58, Tryd.ntmps58
  go_wp2_with fail
  go_ret
  exact ⟨rfl, rfl⟩
theorem part2_any (s : B) (w : World) : Calls Tryd.prog 61 #[.string (bs s)] w fun e w' => e = .returned (.bool (part 2 s)) ∧ w = w' := by
  have e : part 2 s = (decide (s = yy) || decide (s = un) || decide (s = veinti ++ un) || decide (s = hundreds.headD []) || decide (s = mil)) := by
    show (s == yy || s == un || s == veinti ++ un || s == hundreds.headD [] || s == mil) = _
    rw [beq_dec, beq_dec, beq_dec, beq_dec, beq_dec]
  rw [e]
  have b1 : ((bs s).toList == ([121] : List UInt8)) = decide (s = yy) := beq_lit s yy
  have b2 : ((bs s).toList == ([117, 110] : List UInt8)) = decide (s = un) := beq_lit s un
  have b3 : ((bs s).toList == ([118, 101, 105, 110, 116, 105, 117, 110] : List UInt8)) = decide (s = veinti ++ un) := beq_lit s (veinti ++ un)
  have b4 : ((bs s).toList == ([99, 105, 101, 110, 116, 111] : List UInt8)) = decide (s = hundreds.headD []) := beq_lit s (hundreds.headD [])
  have b5 : ((bs s).toList == ([109, 105, 108] : List UInt8)) = decide (s = mil) := beq_lit s mil
  generalize decide (s = yy) = x1 at *
  generalize decide (s = un) = x2 at *
  generalize decide (s = veinti ++ un) = x3 at *
  generalize decide (s = hundreds.headD []) = x4 at *
  generalize decide (s = mil) = x5 at *
  clear e
  cases x1
  · cases x2
    · cases x3
      · cases x4
        · cases x5
          all_goals
            go_enter Tryd.func61, Tryd.ntmps61
            go_wp2_with fail
            go_ret
            exact ⟨rfl, rfl⟩
        · clear b5
          go_enter Tryd.func61, Tryd.ntmps61
          go_wp2_with fail
          go_ret
          exact ⟨rfl, rfl⟩
      · clear b4 b5
        go_enter Tryd.func61, Tryd.ntmps61
        go_wp2_with fail
        go_ret
        exact ⟨rfl, rfl⟩
    · clear b3 b4 b5
      go_enter Tryd.func61, Tryd.ntmps61
      go_wp2_with fail
      go_ret
      exact ⟨rfl, rfl⟩
  · clear b2 b3 b4 b5
    go_enter Tryd.func61, Tryd.ntmps61
    go_wp2_with fail
    go_ret
    exact ⟨rfl, rfl⟩
theorem isLanguage_any (L : Int) (w : World) : Calls Tryd.prog 32 #[.int .i64 L] w fun e w' => e = .returned (.bool (decide (1 ≤ L) && decide (L ≤ 3))) ∧ w = w' := by
  by_cases h1 : 1 ≤ L
  · by_cases h2 : L ≤ 3
    · rw [decide_eq_true h1, decide_eq_true h2]
      go_enter Tryd.func32, Tryd.ntmps32
      go_wp2_with fail
      go_ret
      exact ⟨rfl, rfl⟩
    · rw [decide_eq_true h1, decide_eq_false h2]
      go_enter Tryd.func32, Tryd.ntmps32
      go_wp2_with fail
      go_ret
      exact ⟨rfl, rfl⟩
  · rw [decide_eq_false h1]
    go_enter Tryd.func32, Tryd.ntmps32
    go_wp2_with fail
    go_ret
    exact ⟨rfl, rfl⟩
abbrev tongsV : Value := .agg #[fnV 53, fnV 54, fnV 55, fnV 56, fnV 57, fnV 58, fnV 59, fnV 60, fnV 61]
set_option maxRecDepth 100000 in
theorem tongues_any (w : World) : Calls Tryd.prog 46 #[] w fun e w' => e = .returned tongsV ∧ Below w.heap.size w w' := by
  go_enter Tryd.func46, Tryd.ntmps46
  go_wp2_with fail
  refine bodyPost_ret (v := tongsV) (by first | (simp [results, Tryd.results46, go_sem]; done) | simp [results, Tryd.results46, go_sem, *]) rfl ⟨rfl, (Below.refl _ _).alloc (Nat.le_refl _) _⟩
theorem infoTongue : (Tryd.prog.info? 55).map (·.size) = some 3 := by kernel_rfl
theorem run_tongs0 (w : World) : (Instr.index 70 tongsV (.int .i64 0)).run Tryd.prog w = .ok (.agg #[fnV 53, fnV 54, fnV 55]) w := by
  obtain ⟨i, hi, hs⟩ : ∃ i, Tryd.prog.info? 55 = some i ∧ i.size = 3 := by
    have := infoTongue
    cases hq : Tryd.prog.info? 55 with
    | none => rw [hq] at this; cases this
    | some i => rw [hq] at this; exact ⟨i, rfl, by simpa using this⟩
  unfold tongsV
  simp [Instr.index, asIntOf, run_underlying Tryd.underlying70, sizeOf, typeInfo, hi, hs, Go.part, Go.isAgg, run_underlying Tryd.underlying55]
theorem run_tongs1 (w : World) : (Instr.index 70 tongsV (.int .i64 1)).run Tryd.prog w = .ok (.agg #[fnV 56, fnV 57, fnV 58]) w := by
  obtain ⟨i, hi, hs⟩ : ∃ i, Tryd.prog.info? 55 = some i ∧ i.size = 3 := by
    have := infoTongue
    cases hq : Tryd.prog.info? 55 with
    | none => rw [hq] at this; cases this
    | some i => rw [hq] at this; exact ⟨i, rfl, by simpa using this⟩
  unfold tongsV
  simp [Instr.index, asIntOf, run_underlying Tryd.underlying70, sizeOf, typeInfo, hi, hs, Go.part, Go.isAgg, run_underlying Tryd.underlying55]
theorem run_tongs2 (w : World) : (Instr.index 70 tongsV (.int .i64 2)).run Tryd.prog w = .ok (.agg #[fnV 59, fnV 60, fnV 61]) w := by
  obtain ⟨i, hi, hs⟩ : ∃ i, Tryd.prog.info? 55 = some i ∧ i.size = 3 := by
    have := infoTongue
    cases hq : Tryd.prog.info? 55 with
    | none => rw [hq] at this; cases this
    | some i => rw [hq] at this; exact ⟨i, rfl, by simpa using this⟩
  unfold tongsV
  simp [Instr.index, asIntOf, run_underlying Tryd.underlying70, sizeOf, typeInfo, hi, hs, Go.part, Go.isAgg, run_underlying Tryd.underlying55]
set_option maxRecDepth 100000 in
theorem of_any (k : Nat) (L : Int) (hk : k < 3) (hL : L = k + 1) (w : World) : Calls Tryd.prog 33 #[.int .i64 L] w fun e w' => e = .returned (tongV k) ∧ Below w.heap.size w w' := by
  subst hL
  have CT := Lib.hid (fun w => tongues_any w)
  rcases (show k = 0 ∨ k = 1 ∨ k = 2 by omega) with rfl | rfl | rfl
  · have hr := run_tongs0
    go_enter Tryd.func33, Tryd.ntmps33
    go_wp2_with fail
    refine Calls.mono (CT.out _) ?_
    rintro e w2 ⟨rfl, hb⟩
    have hs := hb.size
    have hc := (hb.block w.heap.size (by simp)).trans (heap_alloc_new w _)
    have hf := block_cells hc
    have HB := Lib.hid hb
    clear hb
    go_wp2_with fail
    have l : w.heap.size < w2.heap.size := by simp at hs; omega
    have h1 : Below w.heap.size w w2 := Below.andThen ((Below.refl _ _).alloc (Nat.le_refl _) _) HB.out
    refine bodyPost_ret (v := (.agg #[fnV 53, fnV 54, fnV 55])) (by first | (simp [results, Tryd.results33, go_sem]; done) | simp [results, Tryd.results33, go_sem, *]) rfl ⟨rfl, ((h1.setCell (p := ⟨w.heap.size, 0, none⟩) (Nat.le_refl _) _).setCell (p := ⟨w.heap.size, 1, none⟩) (Nat.le_refl _) _).setCell (p := ⟨w.heap.size, 2, none⟩) (Nat.le_refl _) _⟩
  · have hr := run_tongs1
    go_enter Tryd.func33, Tryd.ntmps33
    go_wp2_with fail
    refine Calls.mono (CT.out _) ?_
    rintro e w2 ⟨rfl, hb⟩
    have hs := hb.size
    have hc := (hb.block w.heap.size (by simp)).trans (heap_alloc_new w _)
    have hf := block_cells hc
    have HB := Lib.hid hb
    clear hb
    go_wp2_with fail
    have l : w.heap.size < w2.heap.size := by simp at hs; omega
    have h1 : Below w.heap.size w w2 := Below.andThen ((Below.refl _ _).alloc (Nat.le_refl _) _) HB.out
    refine bodyPost_ret (v := (.agg #[fnV 56, fnV 57, fnV 58])) (by first | (simp [results, Tryd.results33, go_sem]; done) | simp [results, Tryd.results33, go_sem, *]) rfl ⟨rfl, ((h1.setCell (p := ⟨w.heap.size, 0, none⟩) (Nat.le_refl _) _).setCell (p := ⟨w.heap.size, 1, none⟩) (Nat.le_refl _) _).setCell (p := ⟨w.heap.size, 2, none⟩) (Nat.le_refl _) _⟩
  · have hr := run_tongs2
    go_enter Tryd.func33, Tryd.ntmps33
    go_wp2_with fail
    refine Calls.mono (CT.out _) ?_
    rintro e w2 ⟨rfl, hb⟩
    have hs := hb.size
    have hc := (hb.block w.heap.size (by simp)).trans (heap_alloc_new w _)
    have hf := block_cells hc
    have HB := Lib.hid hb
    clear hb
    go_wp2_with fail
    have l : w.heap.size < w2.heap.size := by simp at hs; omega
    have h1 : Below w.heap.size w w2 := Below.andThen ((Below.refl _ _).alloc (Nat.le_refl _) _) HB.out
    refine bodyPost_ret (v := (.agg #[fnV 59, fnV 60, fnV 61])) (by first | (simp [results, Tryd.results33, go_sem]; done) | simp [results, Tryd.results33, go_sem, *]) rfl ⟨rfl, ((h1.setCell (p := ⟨w.heap.size, 0, none⟩) (Nat.le_refl _) _).setCell (p := ⟨w.heap.size, 1, none⟩) (Nat.le_refl _) _).setCell (p := ⟨w.heap.size, 2, none⟩) (Nat.le_refl _) _⟩
end Wo
end Go.Proofs.YtebdpdmkehfgfaaDoor
