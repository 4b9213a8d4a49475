/- Merging as mathematics; the slice behind the first element. -/
import Derived.Test.YthjolojpjajppaaGreatLbF
set_option linter.unusedVariables false
set_option linter.unusedSimpArgs false
set_option linter.unnecessarySimpa false
namespace Go.Proofs.YthjolojpjajppaaGreat
open Go.RowKit
namespace Lb
open Sq
def okT {α : Type} (_ : World) (_ : α) : Prop := True
def mergeL {α : Type} (cmp : α → α → Int) (join : α → α → α) : List α → List α → List α
  | [], m => m
  | a :: l, [] => a :: l
  | a :: l, b :: m => if cmp a b < 0 then a :: mergeL cmp join l (b :: m) else if 0 < cmp a b then b :: mergeL cmp join (a :: l) m else join a b :: mergeL cmp join l m
termination_by l m => l.length + m.length
theorem mergeL_cons {α : Type} (cmp : α → α → Int) (join : α → α → α) (a b : α) (l m : List α) : mergeL cmp join (a :: l) (b :: m) = if cmp a b < 0 then a :: mergeL cmp join l (b :: m) else if 0 < cmp a b then b :: mergeL cmp join (a :: l) m else join a b :: mergeL cmp join l m := by rw [mergeL]
theorem mergeL_end {α : Type} (cmp : α → α → Int) (join : α → α → α) {l m : List α} (h : l = [] ∨ m = []) : mergeL cmp join l m = l ++ m := by
  rcases h with rfl | rfl
  · rw [mergeL]; rfl
  · cases l with
    | nil => rw [mergeL]; rfl
    | cons a l => rw [mergeL]; simp
theorem tail_at {α : Type} {l : List α} {x : α} (h : l[0]? = some x) : l = x :: l.tail := by cases l with | nil => cases h | cons a l => cases h; rfl
def lenV : Value → Nat
  | .slice _ n _ => n
  | _ => 0
theorem sv_tail {α : Type} {E : El α} {w : World} {b off n c : Nat} {l : List α} (h : Sv E w (some ⟨b, off, none⟩) n c l) (hn : 0 < n) : Sv E w (if c = 1 then some ⟨b, off, none⟩ else some ⟨b, off + E.k, none⟩) (n - 1) (c - 1) l.tail := by
  obtain ⟨h1, h2, h3, h4, h5⟩ := h
  refine ⟨by rw [List.length_tail, h1], by omega, by omega, (fun e => by split at e <;> cases e), ?_⟩
  split
  · exact .inl (by apply List.eq_nil_of_length_eq_zero; rw [List.length_tail, h1]; omega)
  · have := h5.drop 1
    rw [Nat.one_mul, List.drop_one] at this
    exact this
theorem slice_tail {α : Type} {E : El α} {w : World} {t e : TypeId} {b off n c : Nat} {l : List α} (T : Ty E t e) (he : Tryz.prog.elem t = e) (h : Sv E w (some ⟨b, off, none⟩) n c l) (hn : 0 < n) :
    ∃ o', (∀ W : World, (Instr.slice t (.slice (some ⟨b, off, none⟩) n c) (some (.int .i64 1)) none none).run Tryz.prog W = .ok (.slice o' (n - 1) (c - 1)) W) ∧ Sv E w o' (n - 1) (c - 1) l.tail := by
  refine ⟨_, fun W => ?_, sv_tail h hn⟩
  obtain ⟨i, z, hi, hz, hs, _⟩ := T.info
  have hu : Tryz.prog.underlying t = some (.slice (Tryz.prog.elem t)) := by rw [he]; exact T.und
  have hsz : (sizeOf e).run Tryz.prog W = .ok E.k W := by simp [sizeOf, typeInfo, hi, hs]
  rw [run_slice_l W t _ n c hu .i64 1 (by decide) (by omega), he, hsz]
  simp only [Result.andThen_ok, sliced, Option.map_some, add_lit]
  simp
theorem tyI : Ty intE 24 3 := ty_mk (z := .int .i64 0) (b := 8) Tryz.underlying24 (by kernel_rfl) (by decide) rfl
theorem tyC : Ty cnE 25 67 := ty_mk (z := .agg #[.int .i64 0, .int .i64 0]) (b := 16) Tryz.underlying25 (by kernel_rfl) (by decide) rfl
theorem tyK : Ty lkE 26 70 := ty_mk (z := .agg #[.int .i64 0, .slice none 0 0]) (b := 32) Tryz.underlying26 (by kernel_rfl) (by decide) rfl
/-- joins -/
def firstF {α : Type} (x _ : α) : α := x
def greaterF (x y : Cn) : Cn := ⟨x.fact, max x.cnt y.cnt⟩
theorem greater_any (x y : Cn) (w : World) : Calls Tryz.prog 60 #[cnV x, cnV y] w fun e w' => e = .returned (cnV (greaterF x y)) ∧ Below w.heap.size w w' := by
  obtain ⟨xf, xc⟩ := x
  obtain ⟨yf, yc⟩ := y
  unfold greaterF cnV
  dsimp only
  go_enter Tryz.func60, Tryz.ntmps60
  go_wp2_with fail
  refine bodyPost_ret (v := .agg #[.int .i64 xf, .int .i64 (max xc yc)]) (by first | (simp [results, Tryz.results60, go_sem]; done) | simp [results, Tryz.results60, go_sem, *]) rfl ⟨rfl, by (repeat' first | exact Below.refl _ _ | assumption | (refine below_drewN ?_ _) | (refine Below.drew ?_) | (refine Below.alloc ?_ ?_ _) | (refine Below.setCell ?_ ?_ _) | (simp; done) | (simp; omega) | omega)⟩
theorem CompareB_any (x y : Int) (w : World) : Calls Tryz.prog 56 #[.int .i64 x, .int .i64 y] w fun e w' => e = .returned (.int .i64 (cmpI x y)) ∧ Below w.heap.size w w' := (Compare_any x y w).mono fun _ _ h => ⟨h.1, by rw [h.2]; exact Below.refl _ _⟩
/-- a sign that says whether there is one -/
def SgP (b : Bool) (i : Int) : Prop := if b = true then 0 ≤ i else i = -1
theorem firstI_any (x y : Int) (w : World) : Calls Tryz.prog 57 #[.int .i64 x, .int .i64 y] w fun e w' => e = .returned (.int .i64 (firstF x y)) ∧ Below w.heap.size w w' := by
  go_enter Tryz.func57, Tryz.ntmps57
  go_wp2_with fail
  go_ret
  exact ⟨rfl, by (repeat' first | exact Below.refl _ _ | assumption | (refine below_drewN ?_ _) | (refine Below.drew ?_) | (refine Below.alloc ?_ ?_ _) | (refine Below.setCell ?_ ?_ _) | (simp; done) | (simp; omega) | omega)⟩
theorem firstK_any (x y : Lk) (w : World) : Calls Tryz.prog 52 #[lkV x, lkV y] w fun e w' => e = .returned (lkV (firstF x y)) ∧ Below w.heap.size w w' := by
  obtain ⟨xn, xo, xm, xc, xk⟩ := x
  obtain ⟨yn, yo, ym, yc, yk⟩ := y
  unfold firstF lkV
  dsimp only
  go_enter Tryz.func52, Tryz.ntmps52
  go_wp2_with fail
  refine bodyPost_ret (v := .agg #[.int .i64 xn, .slice xo xm xc]) (by first | (simp [results, Tryz.results52, go_sem]; done) | simp [results, Tryz.results52, go_sem, *]) rfl ⟨rfl, by (repeat' first | exact Below.refl _ _ | assumption | (refine below_drewN ?_ _) | (refine Below.drew ?_) | (refine Below.alloc ?_ ?_ _) | (refine Below.setCell ?_ ?_ _) | (simp; done) | (simp; omega) | omega)⟩
end Lb
end Go.Proofs.YthjolojpjajppaaGreat
