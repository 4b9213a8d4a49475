/- Checking what a closure makes of right arguments. -/
import Derived.Test.YtdldokhiefeloaaDoorUnitC
namespace Go.Proofs.YtdldokhiefeloaaDoor
open Go.RowKit

def resV (r : Res) : Value := .tuple #[.agg #[.int .i64 r.lo, .int .i64 r.hi, .int .i64 r.u], .int .i64 r.e]

set_option maxHeartbeats 400000 in
theorem wrong_no (pr pc pa : Addr) (w : World) (hr : w.cell? pr = some (.bool false)) :
    Calls Tryd.prog 82 #[.pointer (some pr), .pointer (some pc), .pointer (some pa)] w fun r w' => r = .returned (.bool true) ∧ w = w' := by
  go_enter Tryd.func82, Tryd.ntmps82
  go_wp2
  go_ret
  exact ⟨rfl, rfl⟩

set_option maxHeartbeats 400000 in
theorem wrong_add (br bc ba : Nat) (cap : Array Value) (L H U : Int) (w : World) (T : Tab w) (hT : 0 ≠ ba) (hr : w.cell? ⟨br, 0, none⟩ = some (.bool true)) (hc : w.cell? ⟨bc, 0, none⟩ = some (.func (.func 57) #[] cap))
    (h0 : w.cell? ⟨ba, 0, none⟩ = some (.int .i64 0)) (h1 : w.cell? ⟨ba, 1, none⟩ = some (.int .i64 0)) (h2 : w.cell? ⟨ba, 2, none⟩ = some (.int .i64 0)) (hf : ∀ o, w.frozen? ⟨ba, o, none⟩ = false)
    (hG : Calls Tryd.prog 57 cap w fun e w' => e = .returned (.agg #[.int .i64 L, .int .i64 H, .int .i64 U]) ∧ Below w.heap.size w w') :
    Calls Tryd.prog 82 #[.pointer (some ⟨br, 0, none⟩), .pointer (some ⟨bc, 0, none⟩), .pointer (some ⟨ba, 0, none⟩)] w fun r w' => r = .returned (.bool (!validB L H U)) ∧
      ∃ W2, Below w.heap.size w W2 ∧ Below (((W2.setCell ⟨ba, 0, none⟩ (.int .i64 L)).setCell ⟨ba, 1, none⟩ (.int .i64 H)).setCell ⟨ba, 2, none⟩ (.int .i64 U)).heap.size (((W2.setCell ⟨ba, 0, none⟩ (.int .i64 L)).setCell ⟨ba, 1, none⟩ (.int .i64 H)).setCell ⟨ba, 2, none⟩ (.int .i64 U)) w' := by
  have HG := Lib.hid hG
  have hlt := World.block_lt_of_cell? w _ h0
  have H0 := Lib.hid h0
  have H1 := Lib.hid h1
  have H2 := Lib.hid h2
  have HF := Lib.hid hf
  have HN := Lib.hid hT
  have HT := Lib.hid T
  have HL := Lib.hid hlt
  clear hG h0 h1 h2 hf hT T hlt
  go_enter Tryd.func82, Tryd.ntmps82
  go_wp2_with fail
  refine HG.out.mono ?_
  rintro e W2 ⟨rfl, hb⟩
  have hlt := HL.out
  have h0 := H0.out
  have h1 := H1.out
  have h2 := H2.out
  have hf := HF.out
  have hT := HN.out
  have T := HT.out
  have h0' : W2.cell? ⟨ba, 0, none⟩ = some (.int .i64 0) := (hb.cell (p := ⟨ba, 0, none⟩) hlt).trans h0
  have h1' : W2.cell? ⟨ba, 1, none⟩ = some (.int .i64 0) := (hb.cell (p := ⟨ba, 1, none⟩) hlt).trans h1
  have h2' : W2.cell? ⟨ba, 2, none⟩ = some (.int .i64 0) := (hb.cell (p := ⟨ba, 2, none⟩) hlt).trans h2
  have hf' : ∀ o, W2.frozen? ⟨ba, o, none⟩ = false := fun o => (hb.frozen (p := ⟨ba, o, none⟩) hlt).trans (hf o)
  have T2 := T.next hb
  have T3 : Tab (((W2.setCell ⟨ba, 0, none⟩ (.int .i64 L)).setCell ⟨ba, 1, none⟩ (.int .i64 H)).setCell ⟨ba, 2, none⟩ (.int .i64 U)) :=
    ⟨by simpa using T2.size, fun i hi => by
      rw [cell_far _ _ _ _ hT, cell_far _ _ _ _ hT, cell_far _ _ _ _ hT]
      exact T2.cell i hi⟩
  have HB := Lib.hid hb
  clear hb h0 h1 h2 hf T T2 hlt hT H0 H1 H2 HF HN HT HL hr hc
  go_wp2_with (go_at_call 36; refine (valid_any _ _ _ _ T3).mono ?_; rintro e W3 ⟨rfl, hb3⟩; have HB3 := Lib.hid hb3; clear hb3)
  go_ret
  exact ⟨rfl, W2, HB.out, HB3.out⟩

set_option maxHeartbeats 400000 in
theorem wrong_meet (br bc ba : Nat) (cap : Array Value) (L H U : Int) (w : World) (T : Tab w) (hT : 0 ≠ ba) (hr : w.cell? ⟨br, 0, none⟩ = some (.bool true)) (hc : w.cell? ⟨bc, 0, none⟩ = some (.func (.func 59) #[] cap))
    (h0 : w.cell? ⟨ba, 0, none⟩ = some (.int .i64 0)) (h1 : w.cell? ⟨ba, 1, none⟩ = some (.int .i64 0)) (h2 : w.cell? ⟨ba, 2, none⟩ = some (.int .i64 0)) (hf : ∀ o, w.frozen? ⟨ba, o, none⟩ = false)
    (hG : Calls Tryd.prog 59 cap w fun e w' => e = .returned (.agg #[.int .i64 L, .int .i64 H, .int .i64 U]) ∧ Below w.heap.size w w') :
    Calls Tryd.prog 82 #[.pointer (some ⟨br, 0, none⟩), .pointer (some ⟨bc, 0, none⟩), .pointer (some ⟨ba, 0, none⟩)] w fun r w' => r = .returned (.bool (!validB L H U)) ∧
      ∃ W2, Below w.heap.size w W2 ∧ Below (((W2.setCell ⟨ba, 0, none⟩ (.int .i64 L)).setCell ⟨ba, 1, none⟩ (.int .i64 H)).setCell ⟨ba, 2, none⟩ (.int .i64 U)).heap.size (((W2.setCell ⟨ba, 0, none⟩ (.int .i64 L)).setCell ⟨ba, 1, none⟩ (.int .i64 H)).setCell ⟨ba, 2, none⟩ (.int .i64 U)) w' := by
  have HG := Lib.hid hG
  have hlt := World.block_lt_of_cell? w _ h0
  have H0 := Lib.hid h0
  have H1 := Lib.hid h1
  have H2 := Lib.hid h2
  have HF := Lib.hid hf
  have HN := Lib.hid hT
  have HT := Lib.hid T
  have HL := Lib.hid hlt
  clear hG h0 h1 h2 hf hT T hlt
  go_enter Tryd.func82, Tryd.ntmps82
  go_wp2_with fail
  refine HG.out.mono ?_
  rintro e W2 ⟨rfl, hb⟩
  have hlt := HL.out
  have h0 := H0.out
  have h1 := H1.out
  have h2 := H2.out
  have hf := HF.out
  have hT := HN.out
  have T := HT.out
  have h0' : W2.cell? ⟨ba, 0, none⟩ = some (.int .i64 0) := (hb.cell (p := ⟨ba, 0, none⟩) hlt).trans h0
  have h1' : W2.cell? ⟨ba, 1, none⟩ = some (.int .i64 0) := (hb.cell (p := ⟨ba, 1, none⟩) hlt).trans h1
  have h2' : W2.cell? ⟨ba, 2, none⟩ = some (.int .i64 0) := (hb.cell (p := ⟨ba, 2, none⟩) hlt).trans h2
  have hf' : ∀ o, W2.frozen? ⟨ba, o, none⟩ = false := fun o => (hb.frozen (p := ⟨ba, o, none⟩) hlt).trans (hf o)
  have T2 := T.next hb
  have T3 : Tab (((W2.setCell ⟨ba, 0, none⟩ (.int .i64 L)).setCell ⟨ba, 1, none⟩ (.int .i64 H)).setCell ⟨ba, 2, none⟩ (.int .i64 U)) :=
    ⟨by simpa using T2.size, fun i hi => by
      rw [cell_far _ _ _ _ hT, cell_far _ _ _ _ hT, cell_far _ _ _ _ hT]
      exact T2.cell i hi⟩
  have HB := Lib.hid hb
  clear hb h0 h1 h2 hf T T2 hlt hT H0 H1 H2 HF HN HT HL hr hc
  go_wp2_with (go_at_call 36; refine (valid_any _ _ _ _ T3).mono ?_; rintro e W3 ⟨rfl, hb3⟩; have HB3 := Lib.hid hb3; clear hb3)
  go_ret
  exact ⟨rfl, W2, HB.out, HB3.out⟩

set_option maxHeartbeats 400000 in
theorem wrong_conv (br bc ba : Nat) (cap : Array Value) (L H U : Int) (w : World) (T : Tab w) (hT : 0 ≠ ba) (hr : w.cell? ⟨br, 0, none⟩ = some (.bool true)) (hc : w.cell? ⟨bc, 0, none⟩ = some (.func (.func 61) #[] cap))
    (h0 : w.cell? ⟨ba, 0, none⟩ = some (.int .i64 0)) (h1 : w.cell? ⟨ba, 1, none⟩ = some (.int .i64 0)) (h2 : w.cell? ⟨ba, 2, none⟩ = some (.int .i64 0)) (hf : ∀ o, w.frozen? ⟨ba, o, none⟩ = false)
    (hG : Calls Tryd.prog 61 cap w fun e w' => e = .returned (.agg #[.int .i64 L, .int .i64 H, .int .i64 U]) ∧ Below w.heap.size w w') :
    Calls Tryd.prog 82 #[.pointer (some ⟨br, 0, none⟩), .pointer (some ⟨bc, 0, none⟩), .pointer (some ⟨ba, 0, none⟩)] w fun r w' => r = .returned (.bool (!validB L H U)) ∧
      ∃ W2, Below w.heap.size w W2 ∧ Below (((W2.setCell ⟨ba, 0, none⟩ (.int .i64 L)).setCell ⟨ba, 1, none⟩ (.int .i64 H)).setCell ⟨ba, 2, none⟩ (.int .i64 U)).heap.size (((W2.setCell ⟨ba, 0, none⟩ (.int .i64 L)).setCell ⟨ba, 1, none⟩ (.int .i64 H)).setCell ⟨ba, 2, none⟩ (.int .i64 U)) w' := by
  have HG := Lib.hid hG
  have hlt := World.block_lt_of_cell? w _ h0
  have H0 := Lib.hid h0
  have H1 := Lib.hid h1
  have H2 := Lib.hid h2
  have HF := Lib.hid hf
  have HN := Lib.hid hT
  have HT := Lib.hid T
  have HL := Lib.hid hlt
  clear hG h0 h1 h2 hf hT T hlt
  go_enter Tryd.func82, Tryd.ntmps82
  go_wp2_with fail
  refine HG.out.mono ?_
  rintro e W2 ⟨rfl, hb⟩
  have hlt := HL.out
  have h0 := H0.out
  have h1 := H1.out
  have h2 := H2.out
  have hf := HF.out
  have hT := HN.out
  have T := HT.out
  have h0' : W2.cell? ⟨ba, 0, none⟩ = some (.int .i64 0) := (hb.cell (p := ⟨ba, 0, none⟩) hlt).trans h0
  have h1' : W2.cell? ⟨ba, 1, none⟩ = some (.int .i64 0) := (hb.cell (p := ⟨ba, 1, none⟩) hlt).trans h1
  have h2' : W2.cell? ⟨ba, 2, none⟩ = some (.int .i64 0) := (hb.cell (p := ⟨ba, 2, none⟩) hlt).trans h2
  have hf' : ∀ o, W2.frozen? ⟨ba, o, none⟩ = false := fun o => (hb.frozen (p := ⟨ba, o, none⟩) hlt).trans (hf o)
  have T2 := T.next hb
  have T3 : Tab (((W2.setCell ⟨ba, 0, none⟩ (.int .i64 L)).setCell ⟨ba, 1, none⟩ (.int .i64 H)).setCell ⟨ba, 2, none⟩ (.int .i64 U)) :=
    ⟨by simpa using T2.size, fun i hi => by
      rw [cell_far _ _ _ _ hT, cell_far _ _ _ _ hT, cell_far _ _ _ _ hT]
      exact T2.cell i hi⟩
  have HB := Lib.hid hb
  clear hb h0 h1 h2 hf T T2 hlt hT H0 H1 H2 HF HN HT HL hr hc
  go_wp2_with (go_at_call 36; refine (valid_any _ _ _ _ T3).mono ?_; rintro e W3 ⟨rfl, hb3⟩; have HB3 := Lib.hid hb3; clear hb3)
  go_ret
  exact ⟨rfl, W2, HB.out, HB3.out⟩

set_option maxHeartbeats 400000 in
theorem wrong_coarse (br bc ba : Nat) (cap : Array Value) (L H U : Int) (w : World) (T : Tab w) (hT : 0 ≠ ba) (hr : w.cell? ⟨br, 0, none⟩ = some (.bool true)) (hc : w.cell? ⟨bc, 0, none⟩ = some (.func (.func 67) #[] cap))
    (h0 : w.cell? ⟨ba, 0, none⟩ = some (.int .i64 0)) (h1 : w.cell? ⟨ba, 1, none⟩ = some (.int .i64 0)) (h2 : w.cell? ⟨ba, 2, none⟩ = some (.int .i64 0)) (hf : ∀ o, w.frozen? ⟨ba, o, none⟩ = false)
    (hG : Calls Tryd.prog 67 cap w fun e w' => e = .returned (.agg #[.int .i64 L, .int .i64 H, .int .i64 U]) ∧ Below w.heap.size w w') :
    Calls Tryd.prog 82 #[.pointer (some ⟨br, 0, none⟩), .pointer (some ⟨bc, 0, none⟩), .pointer (some ⟨ba, 0, none⟩)] w fun r w' => r = .returned (.bool (!validB L H U)) ∧
      ∃ W2, Below w.heap.size w W2 ∧ Below (((W2.setCell ⟨ba, 0, none⟩ (.int .i64 L)).setCell ⟨ba, 1, none⟩ (.int .i64 H)).setCell ⟨ba, 2, none⟩ (.int .i64 U)).heap.size (((W2.setCell ⟨ba, 0, none⟩ (.int .i64 L)).setCell ⟨ba, 1, none⟩ (.int .i64 H)).setCell ⟨ba, 2, none⟩ (.int .i64 U)) w' := by
  have HG := Lib.hid hG
  have hlt := World.block_lt_of_cell? w _ h0
  have H0 := Lib.hid h0
  have H1 := Lib.hid h1
  have H2 := Lib.hid h2
  have HF := Lib.hid hf
  have HN := Lib.hid hT
  have HT := Lib.hid T
  have HL := Lib.hid hlt
  clear hG h0 h1 h2 hf hT T hlt
  go_enter Tryd.func82, Tryd.ntmps82
  go_wp2_with fail
  refine HG.out.mono ?_
  rintro e W2 ⟨rfl, hb⟩
  have hlt := HL.out
  have h0 := H0.out
  have h1 := H1.out
  have h2 := H2.out
  have hf := HF.out
  have hT := HN.out
  have T := HT.out
  have h0' : W2.cell? ⟨ba, 0, none⟩ = some (.int .i64 0) := (hb.cell (p := ⟨ba, 0, none⟩) hlt).trans h0
  have h1' : W2.cell? ⟨ba, 1, none⟩ = some (.int .i64 0) := (hb.cell (p := ⟨ba, 1, none⟩) hlt).trans h1
  have h2' : W2.cell? ⟨ba, 2, none⟩ = some (.int .i64 0) := (hb.cell (p := ⟨ba, 2, none⟩) hlt).trans h2
  have hf' : ∀ o, W2.frozen? ⟨ba, o, none⟩ = false := fun o => (hb.frozen (p := ⟨ba, o, none⟩) hlt).trans (hf o)
  have T2 := T.next hb
  have T3 : Tab (((W2.setCell ⟨ba, 0, none⟩ (.int .i64 L)).setCell ⟨ba, 1, none⟩ (.int .i64 H)).setCell ⟨ba, 2, none⟩ (.int .i64 U)) :=
    ⟨by simpa using T2.size, fun i hi => by
      rw [cell_far _ _ _ _ hT, cell_far _ _ _ _ hT, cell_far _ _ _ _ hT]
      exact T2.cell i hi⟩
  have HB := Lib.hid hb
  clear hb h0 h1 h2 hf T T2 hlt hT H0 H1 H2 HF HN HT HL hr hc
  go_wp2_with (go_at_call 36; refine (valid_any _ _ _ _ T3).mono ?_; rintro e W3 ⟨rfl, hb3⟩; have HB3 := Lib.hid hb3; clear hb3)
  go_ret
  exact ⟨rfl, W2, HB.out, HB3.out⟩

set_option maxHeartbeats 400000 in
theorem wrong_share (br bc ba : Nat) (cap : Array Value) (L H U : Int) (w : World) (T : Tab w) (hT : 0 ≠ ba) (hr : w.cell? ⟨br, 0, none⟩ = some (.bool true)) (hc : w.cell? ⟨bc, 0, none⟩ = some (.func (.func 68) #[] cap))
    (h0 : w.cell? ⟨ba, 0, none⟩ = some (.int .i64 0)) (h1 : w.cell? ⟨ba, 1, none⟩ = some (.int .i64 0)) (h2 : w.cell? ⟨ba, 2, none⟩ = some (.int .i64 0)) (hf : ∀ o, w.frozen? ⟨ba, o, none⟩ = false)
    (hG : Calls Tryd.prog 68 cap w fun e w' => e = .returned (.agg #[.int .i64 L, .int .i64 H, .int .i64 U]) ∧ Below w.heap.size w w') :
    Calls Tryd.prog 82 #[.pointer (some ⟨br, 0, none⟩), .pointer (some ⟨bc, 0, none⟩), .pointer (some ⟨ba, 0, none⟩)] w fun r w' => r = .returned (.bool (!validB L H U)) ∧
      ∃ W2, Below w.heap.size w W2 ∧ Below (((W2.setCell ⟨ba, 0, none⟩ (.int .i64 L)).setCell ⟨ba, 1, none⟩ (.int .i64 H)).setCell ⟨ba, 2, none⟩ (.int .i64 U)).heap.size (((W2.setCell ⟨ba, 0, none⟩ (.int .i64 L)).setCell ⟨ba, 1, none⟩ (.int .i64 H)).setCell ⟨ba, 2, none⟩ (.int .i64 U)) w' := by
  have HG := Lib.hid hG
  have hlt := World.block_lt_of_cell? w _ h0
  have H0 := Lib.hid h0
  have H1 := Lib.hid h1
  have H2 := Lib.hid h2
  have HF := Lib.hid hf
  have HN := Lib.hid hT
  have HT := Lib.hid T
  have HL := Lib.hid hlt
  clear hG h0 h1 h2 hf hT T hlt
  go_enter Tryd.func82, Tryd.ntmps82
  go_wp2_with fail
  refine HG.out.mono ?_
  rintro e W2 ⟨rfl, hb⟩
  have hlt := HL.out
  have h0 := H0.out
  have h1 := H1.out
  have h2 := H2.out
  have hf := HF.out
  have hT := HN.out
  have T := HT.out
  have h0' : W2.cell? ⟨ba, 0, none⟩ = some (.int .i64 0) := (hb.cell (p := ⟨ba, 0, none⟩) hlt).trans h0
  have h1' : W2.cell? ⟨ba, 1, none⟩ = some (.int .i64 0) := (hb.cell (p := ⟨ba, 1, none⟩) hlt).trans h1
  have h2' : W2.cell? ⟨ba, 2, none⟩ = some (.int .i64 0) := (hb.cell (p := ⟨ba, 2, none⟩) hlt).trans h2
  have hf' : ∀ o, W2.frozen? ⟨ba, o, none⟩ = false := fun o => (hb.frozen (p := ⟨ba, o, none⟩) hlt).trans (hf o)
  have T2 := T.next hb
  have T3 : Tab (((W2.setCell ⟨ba, 0, none⟩ (.int .i64 L)).setCell ⟨ba, 1, none⟩ (.int .i64 H)).setCell ⟨ba, 2, none⟩ (.int .i64 U)) :=
    ⟨by simpa using T2.size, fun i hi => by
      rw [cell_far _ _ _ _ hT, cell_far _ _ _ _ hT, cell_far _ _ _ _ hT]
      exact T2.cell i hi⟩
  have HB := Lib.hid hb
  clear hb h0 h1 h2 hf T T2 hlt hT H0 H1 H2 HF HN HT HL hr hc
  go_wp2_with (go_at_call 36; refine (valid_any _ _ _ _ T3).mono ?_; rintro e W3 ⟨rfl, hb3⟩; have HB3 := Lib.hid hb3; clear hb3)
  go_ret
  exact ⟨rfl, W2, HB.out, HB3.out⟩

/-- What the closure g makes of the amounts that it has captured. -/
def Makes (g : FuncId) (cap : Array Value) (L H U : Int) (w : World) : Prop :=
  ∀ w1, Below w.heap.size w w1 → Calls Tryd.prog g cap w1 fun e w' => e = .returned (.agg #[.int .i64 L, .int .i64 H, .int .i64 U]) ∧ Below w1.heap.size w1 w'

set_option maxHeartbeats 400000 in
theorem checked_no (g : FuncId) (cap : Array Value) (w : World) :
    Calls Tryd.prog 55 #[.bool false, .func (.func g) #[] cap] w fun r w' => r = .returned (resV bad) ∧ Below w.heap.size w w' := by
  go_enter Tryd.func55, Tryd.ntmps55
  go_wp2_with (first | (go_at_call 82; refine (wrong_no _ _ _ _ (by go_simp)).mono ?_; rintro e w1 ⟨rfl, rfl⟩))
  rw [show resV bad = .tuple #[.agg #[.int .i64 0, .int .i64 0, .int .i64 0], .int .i64 50] from rfl]
  refine bodyPost_ret (v := _) (by first | (simp [results, Tryd.results55, go_sem]; done) | simp [results, Tryd.results55, go_sem, *]) rfl ⟨rfl, by (repeat' first | exact Below.refl _ _ | assumption | (refine below_drewN ?_ _) | (refine Below.drew ?_) | (refine Below.alloc ?_ ?_ _) | (refine Below.setCell ?_ ?_ _) | (simp; done) | (simp; omega) | omega)⟩

set_option maxHeartbeats 400000 in
theorem checked_add (cap : Array Value) (L H U : Int) (w : World) (T : Tab w) (hG : Makes 57 cap L H U w) :
    Calls Tryd.prog 55 #[.bool true, .func (.func 57) #[] cap] w fun r w' => r = .returned (resV (checkR L H U)) ∧ Below w.heap.size w w' := by
  have HG := Lib.hid hG
  have HT := Lib.hid T
  clear hG T
  have hT := Nat.ne_of_lt (Nat.lt_of_lt_of_le HT.out.size (Nat.le_add_right w.heap.size 3))
  cases hv : validB L H U
  · have HV := Lib.hid hv
    rw [show resV (checkR L H U) = .tuple #[.agg #[.int .i64 0, .int .i64 0, .int .i64 0], .int .i64 50] by simp [checkR, hv, resV, bad]]
    clear hv
    go_enter Tryd.func55, Tryd.ntmps55
    go_wp2_with fail
    refine (wrong_add w.heap.size (w.heap.size + 1) (w.heap.size + 3) cap L H U _ (HT.out.below (B := w.heap.size) (by (repeat' first | exact Below.refl _ _ | assumption | (refine below_drewN ?_ _) | (refine Below.drew ?_) | (refine Below.alloc ?_ ?_ _) | (refine Below.setCell ?_ ?_ _) | (simp; done) | (simp; omega) | omega)) HT.out.size) hT (by go_simp) (by go_simp) (by go_simp) (by go_simp) (by go_simp) (fun o => by go_simp) (HG.out _ (by (repeat' first | exact Below.refl _ _ | assumption | (refine below_drewN ?_ _) | (refine Below.drew ?_) | (refine Below.alloc ?_ ?_ _) | (refine Below.setCell ?_ ?_ _) | (simp; done) | (simp; omega) | omega)))).mono ?_
    rintro e w3 ⟨rfl, W2, hb2, hb3⟩
    rw [HV.out]
    obtain ⟨hc2, hf2, hz2⟩ := after (B := w.heap.size) 4 hb2 (by first | assumption | (simp; done) | (simp; omega) | omega | (have := HS.out; omega)); have HB2 := Lib.hid hb2; clear hb2
    obtain ⟨hc3, hf3, hz3⟩ := after (B := w.heap.size) 4 hb3 (by first | assumption | (simp; done) | (simp; omega) | omega | (have := HS.out; omega)); have HB3 := Lib.hid hb3; clear hb3
    go_wp2
    refine bodyPost_ret (v := _) (by first | (simp [results, Tryd.results55, go_sem]; done) | simp [results, Tryd.results55, go_sem, *]) rfl ⟨rfl, by (repeat' first | exact Below.refl _ _ | assumption | (refine Below.andThen ?_ HB3.out) | (exact HB3.out.size) | (refine Below.andThen ?_ HB2.out) | (exact HB2.out.size) | (refine below_drewN ?_ _) | (refine Below.drew ?_) | (refine Below.alloc ?_ ?_ _) | (refine Below.setCell ?_ ?_ _) | (simp; done) | (simp; omega) | omega)⟩
  · have HV := Lib.hid hv
    rw [show resV (checkR L H U) = .tuple #[.agg #[.int .i64 L, .int .i64 H, .int .i64 U], .int .i64 0] by simp [checkR, hv, resV]]
    clear hv
    go_enter Tryd.func55, Tryd.ntmps55
    go_wp2_with fail
    refine (wrong_add w.heap.size (w.heap.size + 1) (w.heap.size + 3) cap L H U _ (HT.out.below (B := w.heap.size) (by (repeat' first | exact Below.refl _ _ | assumption | (refine below_drewN ?_ _) | (refine Below.drew ?_) | (refine Below.alloc ?_ ?_ _) | (refine Below.setCell ?_ ?_ _) | (simp; done) | (simp; omega) | omega)) HT.out.size) hT (by go_simp) (by go_simp) (by go_simp) (by go_simp) (by go_simp) (fun o => by go_simp) (HG.out _ (by (repeat' first | exact Below.refl _ _ | assumption | (refine below_drewN ?_ _) | (refine Below.drew ?_) | (refine Below.alloc ?_ ?_ _) | (refine Below.setCell ?_ ?_ _) | (simp; done) | (simp; omega) | omega)))).mono ?_
    rintro e w3 ⟨rfl, W2, hb2, hb3⟩
    rw [HV.out]
    obtain ⟨hc2, hf2, hz2⟩ := after (B := w.heap.size) 4 hb2 (by first | assumption | (simp; done) | (simp; omega) | omega | (have := HS.out; omega)); have HB2 := Lib.hid hb2; clear hb2
    obtain ⟨hc3, hf3, hz3⟩ := after (B := w.heap.size) 4 hb3 (by first | assumption | (simp; done) | (simp; omega) | omega | (have := HS.out; omega)); have HB3 := Lib.hid hb3; clear hb3
    go_wp2
    refine bodyPost_ret (v := _) (by first | (simp [results, Tryd.results55, go_sem]; done) | simp [results, Tryd.results55, go_sem, *]) rfl ⟨rfl, by (repeat' first | exact Below.refl _ _ | assumption | (refine Below.andThen ?_ HB3.out) | (exact HB3.out.size) | (refine Below.andThen ?_ HB2.out) | (exact HB2.out.size) | (refine below_drewN ?_ _) | (refine Below.drew ?_) | (refine Below.alloc ?_ ?_ _) | (refine Below.setCell ?_ ?_ _) | (simp; done) | (simp; omega) | omega)⟩

set_option maxHeartbeats 400000 in
theorem checked_meet (cap : Array Value) (L H U : Int) (w : World) (T : Tab w) (hG : Makes 59 cap L H U w) :
    Calls Tryd.prog 55 #[.bool true, .func (.func 59) #[] cap] w fun r w' => r = .returned (resV (checkR L H U)) ∧ Below w.heap.size w w' := by
  have HG := Lib.hid hG
  have HT := Lib.hid T
  clear hG T
  have hT := Nat.ne_of_lt (Nat.lt_of_lt_of_le HT.out.size (Nat.le_add_right w.heap.size 3))
  cases hv : validB L H U
  · have HV := Lib.hid hv
    rw [show resV (checkR L H U) = .tuple #[.agg #[.int .i64 0, .int .i64 0, .int .i64 0], .int .i64 50] by simp [checkR, hv, resV, bad]]
    clear hv
    go_enter Tryd.func55, Tryd.ntmps55
    go_wp2_with fail
    refine (wrong_meet w.heap.size (w.heap.size + 1) (w.heap.size + 3) cap L H U _ (HT.out.below (B := w.heap.size) (by (repeat' first | exact Below.refl _ _ | assumption | (refine below_drewN ?_ _) | (refine Below.drew ?_) | (refine Below.alloc ?_ ?_ _) | (refine Below.setCell ?_ ?_ _) | (simp; done) | (simp; omega) | omega)) HT.out.size) hT (by go_simp) (by go_simp) (by go_simp) (by go_simp) (by go_simp) (fun o => by go_simp) (HG.out _ (by (repeat' first | exact Below.refl _ _ | assumption | (refine below_drewN ?_ _) | (refine Below.drew ?_) | (refine Below.alloc ?_ ?_ _) | (refine Below.setCell ?_ ?_ _) | (simp; done) | (simp; omega) | omega)))).mono ?_
    rintro e w3 ⟨rfl, W2, hb2, hb3⟩
    rw [HV.out]
    obtain ⟨hc2, hf2, hz2⟩ := after (B := w.heap.size) 4 hb2 (by first | assumption | (simp; done) | (simp; omega) | omega | (have := HS.out; omega)); have HB2 := Lib.hid hb2; clear hb2
    obtain ⟨hc3, hf3, hz3⟩ := after (B := w.heap.size) 4 hb3 (by first | assumption | (simp; done) | (simp; omega) | omega | (have := HS.out; omega)); have HB3 := Lib.hid hb3; clear hb3
    go_wp2
    refine bodyPost_ret (v := _) (by first | (simp [results, Tryd.results55, go_sem]; done) | simp [results, Tryd.results55, go_sem, *]) rfl ⟨rfl, by (repeat' first | exact Below.refl _ _ | assumption | (refine Below.andThen ?_ HB3.out) | (exact HB3.out.size) | (refine Below.andThen ?_ HB2.out) | (exact HB2.out.size) | (refine below_drewN ?_ _) | (refine Below.drew ?_) | (refine Below.alloc ?_ ?_ _) | (refine Below.setCell ?_ ?_ _) | (simp; done) | (simp; omega) | omega)⟩
  · have HV := Lib.hid hv
    rw [show resV (checkR L H U) = .tuple #[.agg #[.int .i64 L, .int .i64 H, .int .i64 U], .int .i64 0] by simp [checkR, hv, resV]]
    clear hv
    go_enter Tryd.func55, Tryd.ntmps55
    go_wp2_with fail
    refine (wrong_meet w.heap.size (w.heap.size + 1) (w.heap.size + 3) cap L H U _ (HT.out.below (B := w.heap.size) (by (repeat' first | exact Below.refl _ _ | assumption | (refine below_drewN ?_ _) | (refine Below.drew ?_) | (refine Below.alloc ?_ ?_ _) | (refine Below.setCell ?_ ?_ _) | (simp; done) | (simp; omega) | omega)) HT.out.size) hT (by go_simp) (by go_simp) (by go_simp) (by go_simp) (by go_simp) (fun o => by go_simp) (HG.out _ (by (repeat' first | exact Below.refl _ _ | assumption | (refine below_drewN ?_ _) | (refine Below.drew ?_) | (refine Below.alloc ?_ ?_ _) | (refine Below.setCell ?_ ?_ _) | (simp; done) | (simp; omega) | omega)))).mono ?_
    rintro e w3 ⟨rfl, W2, hb2, hb3⟩
    rw [HV.out]
    obtain ⟨hc2, hf2, hz2⟩ := after (B := w.heap.size) 4 hb2 (by first | assumption | (simp; done) | (simp; omega) | omega | (have := HS.out; omega)); have HB2 := Lib.hid hb2; clear hb2
    obtain ⟨hc3, hf3, hz3⟩ := after (B := w.heap.size) 4 hb3 (by first | assumption | (simp; done) | (simp; omega) | omega | (have := HS.out; omega)); have HB3 := Lib.hid hb3; clear hb3
    go_wp2
    refine bodyPost_ret (v := _) (by first | (simp [results, Tryd.results55, go_sem]; done) | simp [results, Tryd.results55, go_sem, *]) rfl ⟨rfl, by (repeat' first | exact Below.refl _ _ | assumption | (refine Below.andThen ?_ HB3.out) | (exact HB3.out.size) | (refine Below.andThen ?_ HB2.out) | (exact HB2.out.size) | (refine below_drewN ?_ _) | (refine Below.drew ?_) | (refine Below.alloc ?_ ?_ _) | (refine Below.setCell ?_ ?_ _) | (simp; done) | (simp; omega) | omega)⟩

set_option maxHeartbeats 400000 in
theorem checked_conv (cap : Array Value) (L H U : Int) (w : World) (T : Tab w) (hG : Makes 61 cap L H U w) :
    Calls Tryd.prog 55 #[.bool true, .func (.func 61) #[] cap] w fun r w' => r = .returned (resV (checkR L H U)) ∧ Below w.heap.size w w' := by
  have HG := Lib.hid hG
  have HT := Lib.hid T
  clear hG T
  have hT := Nat.ne_of_lt (Nat.lt_of_lt_of_le HT.out.size (Nat.le_add_right w.heap.size 3))
  cases hv : validB L H U
  · have HV := Lib.hid hv
    rw [show resV (checkR L H U) = .tuple #[.agg #[.int .i64 0, .int .i64 0, .int .i64 0], .int .i64 50] by simp [checkR, hv, resV, bad]]
    clear hv
    go_enter Tryd.func55, Tryd.ntmps55
    go_wp2_with fail
    refine (wrong_conv w.heap.size (w.heap.size + 1) (w.heap.size + 3) cap L H U _ (HT.out.below (B := w.heap.size) (by (repeat' first | exact Below.refl _ _ | assumption | (refine below_drewN ?_ _) | (refine Below.drew ?_) | (refine Below.alloc ?_ ?_ _) | (refine Below.setCell ?_ ?_ _) | (simp; done) | (simp; omega) | omega)) HT.out.size) hT (by go_simp) (by go_simp) (by go_simp) (by go_simp) (by go_simp) (fun o => by go_simp) (HG.out _ (by (repeat' first | exact Below.refl _ _ | assumption | (refine below_drewN ?_ _) | (refine Below.drew ?_) | (refine Below.alloc ?_ ?_ _) | (refine Below.setCell ?_ ?_ _) | (simp; done) | (simp; omega) | omega)))).mono ?_
    rintro e w3 ⟨rfl, W2, hb2, hb3⟩
    rw [HV.out]
    obtain ⟨hc2, hf2, hz2⟩ := after (B := w.heap.size) 4 hb2 (by first | assumption | (simp; done) | (simp; omega) | omega | (have := HS.out; omega)); have HB2 := Lib.hid hb2; clear hb2
    obtain ⟨hc3, hf3, hz3⟩ := after (B := w.heap.size) 4 hb3 (by first | assumption | (simp; done) | (simp; omega) | omega | (have := HS.out; omega)); have HB3 := Lib.hid hb3; clear hb3
    go_wp2
    refine bodyPost_ret (v := _) (by first | (simp [results, Tryd.results55, go_sem]; done) | simp [results, Tryd.results55, go_sem, *]) rfl ⟨rfl, by (repeat' first | exact Below.refl _ _ | assumption | (refine Below.andThen ?_ HB3.out) | (exact HB3.out.size) | (refine Below.andThen ?_ HB2.out) | (exact HB2.out.size) | (refine below_drewN ?_ _) | (refine Below.drew ?_) | (refine Below.alloc ?_ ?_ _) | (refine Below.setCell ?_ ?_ _) | (simp; done) | (simp; omega) | omega)⟩
  · have HV := Lib.hid hv
    rw [show resV (checkR L H U) = .tuple #[.agg #[.int .i64 L, .int .i64 H, .int .i64 U], .int .i64 0] by simp [checkR, hv, resV]]
    clear hv
    go_enter Tryd.func55, Tryd.ntmps55
    go_wp2_with fail
    refine (wrong_conv w.heap.size (w.heap.size + 1) (w.heap.size + 3) cap L H U _ (HT.out.below (B := w.heap.size) (by (repeat' first | exact Below.refl _ _ | assumption | (refine below_drewN ?_ _) | (refine Below.drew ?_) | (refine Below.alloc ?_ ?_ _) | (refine Below.setCell ?_ ?_ _) | (simp; done) | (simp; omega) | omega)) HT.out.size) hT (by go_simp) (by go_simp) (by go_simp) (by go_simp) (by go_simp) (fun o => by go_simp) (HG.out _ (by (repeat' first | exact Below.refl _ _ | assumption | (refine below_drewN ?_ _) | (refine Below.drew ?_) | (refine Below.alloc ?_ ?_ _) | (refine Below.setCell ?_ ?_ _) | (simp; done) | (simp; omega) | omega)))).mono ?_
    rintro e w3 ⟨rfl, W2, hb2, hb3⟩
    rw [HV.out]
    obtain ⟨hc2, hf2, hz2⟩ := after (B := w.heap.size) 4 hb2 (by first | assumption | (simp; done) | (simp; omega) | omega | (have := HS.out; omega)); have HB2 := Lib.hid hb2; clear hb2
    obtain ⟨hc3, hf3, hz3⟩ := after (B := w.heap.size) 4 hb3 (by first | assumption | (simp; done) | (simp; omega) | omega | (have := HS.out; omega)); have HB3 := Lib.hid hb3; clear hb3
    go_wp2
    refine bodyPost_ret (v := _) (by first | (simp [results, Tryd.results55, go_sem]; done) | simp [results, Tryd.results55, go_sem, *]) rfl ⟨rfl, by (repeat' first | exact Below.refl _ _ | assumption | (refine Below.andThen ?_ HB3.out) | (exact HB3.out.size) | (refine Below.andThen ?_ HB2.out) | (exact HB2.out.size) | (refine below_drewN ?_ _) | (refine Below.drew ?_) | (refine Below.alloc ?_ ?_ _) | (refine Below.setCell ?_ ?_ _) | (simp; done) | (simp; omega) | omega)⟩

set_option maxHeartbeats 400000 in
theorem checked_coarse (cap : Array Value) (L H U : Int) (w : World) (T : Tab w) (hG : Makes 67 cap L H U w) :
    Calls Tryd.prog 55 #[.bool true, .func (.func 67) #[] cap] w fun r w' => r = .returned (resV (checkR L H U)) ∧ Below w.heap.size w w' := by
  have HG := Lib.hid hG
  have HT := Lib.hid T
  clear hG T
  have hT := Nat.ne_of_lt (Nat.lt_of_lt_of_le HT.out.size (Nat.le_add_right w.heap.size 3))
  cases hv : validB L H U
  · have HV := Lib.hid hv
    rw [show resV (checkR L H U) = .tuple #[.agg #[.int .i64 0, .int .i64 0, .int .i64 0], .int .i64 50] by simp [checkR, hv, resV, bad]]
    clear hv
    go_enter Tryd.func55, Tryd.ntmps55
    go_wp2_with fail
    refine (wrong_coarse w.heap.size (w.heap.size + 1) (w.heap.size + 3) cap L H U _ (HT.out.below (B := w.heap.size) (by (repeat' first | exact Below.refl _ _ | assumption | (refine below_drewN ?_ _) | (refine Below.drew ?_) | (refine Below.alloc ?_ ?_ _) | (refine Below.setCell ?_ ?_ _) | (simp; done) | (simp; omega) | omega)) HT.out.size) hT (by go_simp) (by go_simp) (by go_simp) (by go_simp) (by go_simp) (fun o => by go_simp) (HG.out _ (by (repeat' first | exact Below.refl _ _ | assumption | (refine below_drewN ?_ _) | (refine Below.drew ?_) | (refine Below.alloc ?_ ?_ _) | (refine Below.setCell ?_ ?_ _) | (simp; done) | (simp; omega) | omega)))).mono ?_
    rintro e w3 ⟨rfl, W2, hb2, hb3⟩
    rw [HV.out]
    obtain ⟨hc2, hf2, hz2⟩ := after (B := w.heap.size) 4 hb2 (by first | assumption | (simp; done) | (simp; omega) | omega | (have := HS.out; omega)); have HB2 := Lib.hid hb2; clear hb2
    obtain ⟨hc3, hf3, hz3⟩ := after (B := w.heap.size) 4 hb3 (by first | assumption | (simp; done) | (simp; omega) | omega | (have := HS.out; omega)); have HB3 := Lib.hid hb3; clear hb3
    go_wp2
    refine bodyPost_ret (v := _) (by first | (simp [results, Tryd.results55, go_sem]; done) | simp [results, Tryd.results55, go_sem, *]) rfl ⟨rfl, by (repeat' first | exact Below.refl _ _ | assumption | (refine Below.andThen ?_ HB3.out) | (exact HB3.out.size) | (refine Below.andThen ?_ HB2.out) | (exact HB2.out.size) | (refine below_drewN ?_ _) | (refine Below.drew ?_) | (refine Below.alloc ?_ ?_ _) | (refine Below.setCell ?_ ?_ _) | (simp; done) | (simp; omega) | omega)⟩
  · have HV := Lib.hid hv
    rw [show resV (checkR L H U) = .tuple #[.agg #[.int .i64 L, .int .i64 H, .int .i64 U], .int .i64 0] by simp [checkR, hv, resV]]
    clear hv
    go_enter Tryd.func55, Tryd.ntmps55
    go_wp2_with fail
    refine (wrong_coarse w.heap.size (w.heap.size + 1) (w.heap.size + 3) cap L H U _ (HT.out.below (B := w.heap.size) (by (repeat' first | exact Below.refl _ _ | assumption | (refine below_drewN ?_ _) | (refine Below.drew ?_) | (refine Below.alloc ?_ ?_ _) | (refine Below.setCell ?_ ?_ _) | (simp; done) | (simp; omega) | omega)) HT.out.size) hT (by go_simp) (by go_simp) (by go_simp) (by go_simp) (by go_simp) (fun o => by go_simp) (HG.out _ (by (repeat' first | exact Below.refl _ _ | assumption | (refine below_drewN ?_ _) | (refine Below.drew ?_) | (refine Below.alloc ?_ ?_ _) | (refine Below.setCell ?_ ?_ _) | (simp; done) | (simp; omega) | omega)))).mono ?_
    rintro e w3 ⟨rfl, W2, hb2, hb3⟩
    rw [HV.out]
    obtain ⟨hc2, hf2, hz2⟩ := after (B := w.heap.size) 4 hb2 (by first | assumption | (simp; done) | (simp; omega) | omega | (have := HS.out; omega)); have HB2 := Lib.hid hb2; clear hb2
    obtain ⟨hc3, hf3, hz3⟩ := after (B := w.heap.size) 4 hb3 (by first | assumption | (simp; done) | (simp; omega) | omega | (have := HS.out; omega)); have HB3 := Lib.hid hb3; clear hb3
    go_wp2
    refine bodyPost_ret (v := _) (by first | (simp [results, Tryd.results55, go_sem]; done) | simp [results, Tryd.results55, go_sem, *]) rfl ⟨rfl, by (repeat' first | exact Below.refl _ _ | assumption | (refine Below.andThen ?_ HB3.out) | (exact HB3.out.size) | (refine Below.andThen ?_ HB2.out) | (exact HB2.out.size) | (refine below_drewN ?_ _) | (refine Below.drew ?_) | (refine Below.alloc ?_ ?_ _) | (refine Below.setCell ?_ ?_ _) | (simp; done) | (simp; omega) | omega)⟩

set_option maxHeartbeats 400000 in
theorem checked_share (cap : Array Value) (L H U : Int) (w : World) (T : Tab w) (hG : Makes 68 cap L H U w) :
    Calls Tryd.prog 55 #[.bool true, .func (.func 68) #[] cap] w fun r w' => r = .returned (resV (checkR L H U)) ∧ Below w.heap.size w w' := by
  have HG := Lib.hid hG
  have HT := Lib.hid T
  clear hG T
  have hT := Nat.ne_of_lt (Nat.lt_of_lt_of_le HT.out.size (Nat.le_add_right w.heap.size 3))
  cases hv : validB L H U
  · have HV := Lib.hid hv
    rw [show resV (checkR L H U) = .tuple #[.agg #[.int .i64 0, .int .i64 0, .int .i64 0], .int .i64 50] by simp [checkR, hv, resV, bad]]
    clear hv
    go_enter Tryd.func55, Tryd.ntmps55
    go_wp2_with fail
    refine (wrong_share w.heap.size (w.heap.size + 1) (w.heap.size + 3) cap L H U _ (HT.out.below (B := w.heap.size) (by (repeat' first | exact Below.refl _ _ | assumption | (refine below_drewN ?_ _) | (refine Below.drew ?_) | (refine Below.alloc ?_ ?_ _) | (refine Below.setCell ?_ ?_ _) | (simp; done) | (simp; omega) | omega)) HT.out.size) hT (by go_simp) (by go_simp) (by go_simp) (by go_simp) (by go_simp) (fun o => by go_simp) (HG.out _ (by (repeat' first | exact Below.refl _ _ | assumption | (refine below_drewN ?_ _) | (refine Below.drew ?_) | (refine Below.alloc ?_ ?_ _) | (refine Below.setCell ?_ ?_ _) | (simp; done) | (simp; omega) | omega)))).mono ?_
    rintro e w3 ⟨rfl, W2, hb2, hb3⟩
    rw [HV.out]
    obtain ⟨hc2, hf2, hz2⟩ := after (B := w.heap.size) 4 hb2 (by first | assumption | (simp; done) | (simp; omega) | omega | (have := HS.out; omega)); have HB2 := Lib.hid hb2; clear hb2
    obtain ⟨hc3, hf3, hz3⟩ := after (B := w.heap.size) 4 hb3 (by first | assumption | (simp; done) | (simp; omega) | omega | (have := HS.out; omega)); have HB3 := Lib.hid hb3; clear hb3
    go_wp2
    refine bodyPost_ret (v := _) (by first | (simp [results, Tryd.results55, go_sem]; done) | simp [results, Tryd.results55, go_sem, *]) rfl ⟨rfl, by (repeat' first | exact Below.refl _ _ | assumption | (refine Below.andThen ?_ HB3.out) | (exact HB3.out.size) | (refine Below.andThen ?_ HB2.out) | (exact HB2.out.size) | (refine below_drewN ?_ _) | (refine Below.drew ?_) | (refine Below.alloc ?_ ?_ _) | (refine Below.setCell ?_ ?_ _) | (simp; done) | (simp; omega) | omega)⟩
  · have HV := Lib.hid hv
    rw [show resV (checkR L H U) = .tuple #[.agg #[.int .i64 L, .int .i64 H, .int .i64 U], .int .i64 0] by simp [checkR, hv, resV]]
    clear hv
    go_enter Tryd.func55, Tryd.ntmps55
    go_wp2_with fail
    refine (wrong_share w.heap.size (w.heap.size + 1) (w.heap.size + 3) cap L H U _ (HT.out.below (B := w.heap.size) (by (repeat' first | exact Below.refl _ _ | assumption | (refine below_drewN ?_ _) | (refine Below.drew ?_) | (refine Below.alloc ?_ ?_ _) | (refine Below.setCell ?_ ?_ _) | (simp; done) | (simp; omega) | omega)) HT.out.size) hT (by go_simp) (by go_simp) (by go_simp) (by go_simp) (by go_simp) (fun o => by go_simp) (HG.out _ (by (repeat' first | exact Below.refl _ _ | assumption | (refine below_drewN ?_ _) | (refine Below.drew ?_) | (refine Below.alloc ?_ ?_ _) | (refine Below.setCell ?_ ?_ _) | (simp; done) | (simp; omega) | omega)))).mono ?_
    rintro e w3 ⟨rfl, W2, hb2, hb3⟩
    rw [HV.out]
    obtain ⟨hc2, hf2, hz2⟩ := after (B := w.heap.size) 4 hb2 (by first | assumption | (simp; done) | (simp; omega) | omega | (have := HS.out; omega)); have HB2 := Lib.hid hb2; clear hb2
    obtain ⟨hc3, hf3, hz3⟩ := after (B := w.heap.size) 4 hb3 (by first | assumption | (simp; done) | (simp; omega) | omega | (have := HS.out; omega)); have HB3 := Lib.hid hb3; clear hb3
    go_wp2
    refine bodyPost_ret (v := _) (by first | (simp [results, Tryd.results55, go_sem]; done) | simp [results, Tryd.results55, go_sem, *]) rfl ⟨rfl, by (repeat' first | exact Below.refl _ _ | assumption | (refine Below.andThen ?_ HB3.out) | (exact HB3.out.size) | (refine Below.andThen ?_ HB2.out) | (exact HB2.out.size) | (refine below_drewN ?_ _) | (refine Below.drew ?_) | (refine Below.alloc ?_ ?_ _) | (refine Below.setCell ?_ ?_ _) | (simp; done) | (simp; omega) | omega)⟩

end Go.Proofs.YtdldokhiefeloaaDoor
