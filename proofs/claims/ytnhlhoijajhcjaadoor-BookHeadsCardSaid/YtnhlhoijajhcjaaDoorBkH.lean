/- Valid. -/
import Derived.Test.YtnhlhoijajhcjaaDoorBkG
set_option linter.unusedVariables false
set_option linter.unusedSimpArgs false
set_option linter.unnecessarySimpa false
namespace Go.Proofs.YtnhlhoijajhcjaaDoor
open Go.RowKit Go.Shelf
attribute [local go_sem] Oper.semAt_some
namespace Bk
open Sq
abbrev bookV (acc : Int) (o : Option Addr) (N c : Nat) (cl : Int) : Value := .agg #[.int .i64 acc, .slice o N c, .int .i64 cl]
theorem vd_split {acc : Int} {l : List Po} {cl : Int} : Vd acc l cl ↔ BaseP acc l.length cl ∧ l.all (fm acc) = true ∧ (∀ i, i < l.length → (at' l i).kind = 2 → TbP l i) ∧ Srt l := by
  constructor
  · rintro ⟨h1, h2⟩
    exact ⟨h1, all_true (fun i hi => fm_iff.2 (h2 i hi).1), fun i hi => (h2 i hi).2.2, fun i hi h0 => (h2 i hi).2.1 h0⟩
  · rintro ⟨h1, h2, h3, h4⟩
    exact ⟨h1, fun i hi => ⟨fm_iff.1 (List.all_eq_true.1 h2 _ (at_mem hi)), h4 i hi, h3 i hi⟩⟩
theorem len_cases {N : Nat} {acc cl : Int} (h : ¬ BaseP acc N cl) : acc < 2 ∨ (¬ acc < 2 ∧ 12 < acc) ∨ (¬ acc < 2 ∧ ¬ 12 < acc ∧ cl < 0) ∨ (¬ acc < 2 ∧ ¬ 12 < acc ∧ ¬ cl < 0 ∧ 12 < cl) ∨ (¬ acc < 2 ∧ ¬ 12 < acc ∧ ¬ cl < 0 ∧ ¬ 12 < cl ∧ (200 : Int) < N) := by
  unfold BaseP at h
  omega
set_option maxRecDepth 100000 in
set_option maxHeartbeats 2000000 in
theorem valid_base (acc cl : Int) (o : Option Addr) (N c : Nat) (w : World) (h : ¬ BaseP acc N cl) : Calls Tryd.prog 24 #[bookV acc o N c cl] w fun e w' => e = .returned (.bool false) ∧ Below w.heap.size w w' := by
  have g := len_cases h
  clear h
  rcases g with h | h | h | h | h
  · go_enter Tryd.func24, Tryd.ntmps24
    go_wp2_with fail
    refine bodyPost_ret (v := .bool false) (by first | (simp [results, Tryd.results24, go_sem]; done) | simp [results, Tryd.results24, go_sem, *]) rfl ⟨rfl, by (repeat' first | exact Below.refl _ _ | assumption | (refine below_drewN ?_ _) | (refine Below.drew ?_) | (refine Below.alloc ?_ ?_ _) | (refine Below.setCell ?_ ?_ _) | (simp; done) | (simp; omega) | omega)⟩
  · obtain ⟨h1, h2⟩ := h
    go_enter Tryd.func24, Tryd.ntmps24
    go_wp2_with fail
    refine bodyPost_ret (v := .bool false) (by first | (simp [results, Tryd.results24, go_sem]; done) | simp [results, Tryd.results24, go_sem, *]) rfl ⟨rfl, by (repeat' first | exact Below.refl _ _ | assumption | (refine below_drewN ?_ _) | (refine Below.drew ?_) | (refine Below.alloc ?_ ?_ _) | (refine Below.setCell ?_ ?_ _) | (simp; done) | (simp; omega) | omega)⟩
  · obtain ⟨h1, h2, h3⟩ := h
    go_enter Tryd.func24, Tryd.ntmps24
    go_wp2_with fail
    refine bodyPost_ret (v := .bool false) (by first | (simp [results, Tryd.results24, go_sem]; done) | simp [results, Tryd.results24, go_sem, *]) rfl ⟨rfl, by (repeat' first | exact Below.refl _ _ | assumption | (refine below_drewN ?_ _) | (refine Below.drew ?_) | (refine Below.alloc ?_ ?_ _) | (refine Below.setCell ?_ ?_ _) | (simp; done) | (simp; omega) | omega)⟩
  · obtain ⟨h1, h2, h3, h4⟩ := h
    go_enter Tryd.func24, Tryd.ntmps24
    go_wp2_with fail
    refine bodyPost_ret (v := .bool false) (by first | (simp [results, Tryd.results24, go_sem]; done) | simp [results, Tryd.results24, go_sem, *]) rfl ⟨rfl, by (repeat' first | exact Below.refl _ _ | assumption | (refine below_drewN ?_ _) | (refine Below.drew ?_) | (refine Below.alloc ?_ ?_ _) | (refine Below.setCell ?_ ?_ _) | (simp; done) | (simp; omega) | omega)⟩
  · obtain ⟨h1, h2, h3, h4, h5⟩ := h
    go_enter Tryd.func24, Tryd.ntmps24
    go_wp2_with fail
    refine bodyPost_ret (v := .bool false) (by first | (simp [results, Tryd.results24, go_sem]; done) | simp [results, Tryd.results24, go_sem, *]) rfl ⟨rfl, by (repeat' first | exact Below.refl _ _ | assumption | (refine below_drewN ?_ _) | (refine Below.drew ?_) | (refine Below.alloc ?_ ?_ _) | (refine Below.setCell ?_ ?_ _) | (simp; done) | (simp; omega) | omega)⟩
theorem rows3 (w : World) (t0 t1 t2 : TypeId) (C0 C1 C2 : List Value) (W : World) (e : W = ((w.alloc (.cells C0.toArray t0)).alloc (.cells C1.toArray t1)).alloc (.cells C2.toArray t2)) :
    Row W w.heap.size t0 C0 ∧ Row W (w.heap.size + 1) t1 C1 ∧ Row W (w.heap.size + 1 + 1) t2 C2 ∧ Below w.heap.size w W ∧ W.heap.size = w.heap.size + 3 := by
  subst e
  have h0 := Row.new w t0 C0
  have h1 := Row.new (w.alloc (.cells C0.toArray t0)) t1 C1
  have h2 := Row.new ((w.alloc (.cells C0.toArray t0)).alloc (.cells C1.toArray t1)) t2 C2
  simp only [World.size_alloc] at h1 h2
  exact ⟨(h0.alloc _).alloc _, h1.alloc _, h2, by (repeat' first | exact Below.refl _ _ | assumption | (refine below_drewN ?_ _) | (refine Below.drew ?_) | (refine Below.alloc ?_ ?_ _) | (refine Below.setCell ?_ ?_ _) | (simp; done) | (simp; omega) | omega), by simp⟩
theorem rows2 (w : World) (t0 t1 : TypeId) (C0 C1 : List Value) (W : World) (e : W = (w.alloc (.cells C0.toArray t0)).alloc (.cells C1.toArray t1)) :
    Row W w.heap.size t0 C0 ∧ Row W (w.heap.size + 1) t1 C1 ∧ Below w.heap.size w W ∧ W.heap.size = w.heap.size + 2 := by
  subst e
  have h0 := Row.new w t0 C0
  have h1 := Row.new (w.alloc (.cells C0.toArray t0)) t1 C1
  simp only [World.size_alloc] at h1
  exact ⟨h0.alloc _, h1, by (repeat' first | exact Below.refl _ _ | assumption | (refine below_drewN ?_ _) | (refine Below.drew ?_) | (refine Below.alloc ?_ ?_ _) | (refine Below.setCell ?_ ?_ _) | (simp; done) | (simp; omega) | omega), by simp⟩
set_option maxRecDepth 100000 in
set_option maxHeartbeats 2000000 in
theorem valid_form (acc cl : Int) (o : Option Addr) (N c : Nat) (l : List Po) (w : World) (hl : l.length = N) (h : BaseP acc N cl) (hf : l.all (fm acc) = false) (hS : Sl poE w o l) : Calls Tryd.prog 24 #[bookV acc o N c cl] w fun e w' => e = .returned (.bool false) ∧ Below w.heap.size w w' := by
  obtain ⟨h1, h2, h3, h4, h5⟩ := h
  have d1 : ¬ acc < 2 := by omega
  have d2 : ¬ 12 < acc := by omega
  have d3 : ¬ cl < 0 := by omega
  have d4 : ¬ 12 < cl := by omega
  have d5 : ¬ (200 : Int) < N := by omega
  have CA := Lib.hid (fun b W hb (hS : Sl poE W o l) => all_any b acc o N c l W hb hl (by unfold maxLen; omega) hS)
  rw [hf] at CA
  have SL := Lib.hid hS
  clear h1 h2 h3 h4 h5 hf hS hl
  go_enter Tryd.func24, Tryd.ntmps24
  go_upto_region 4 with (fail)
  refine wp_named fun w1 hq => ?_
  obtain ⟨bB, ebB⟩ : ∃ b, b = w.heap.size := ⟨_, rfl⟩
  obtain ⟨br, ebr⟩ : ∃ b, b = w.heap.size + 1 := ⟨_, rfl⟩
  obtain ⟨bE, ebE⟩ : ∃ b, b = w.heap.size + 1 + 1 := ⟨_, rfl⟩
  obtain ⟨r0, r1, r2, hB, -⟩ := rows3 w 24 4 77 [.int .i64 acc, .slice o N c, .int .i64 cl] [.bool false] [.slice o N c] w1 hq
  have HS := Lib.hid (show w.heap.size ≤ br by omega)
  rw [← ebE, ← ebr, ← ebB]
  rw [← ebB] at r0
  rw [← ebr] at r1
  rw [← ebE] at r2
  have BB := Lib.hid hB
  replace SL := Lib.hid (SL.out.next hB)
  have HB1 := Lib.hid (show Has1 w1 bB (.int .i64 acc) from ⟨r0.lt, r0.cell 0⟩)
  have R1 := Lib.hid r1
  have cE := r2.cell 0
  have lE := r2.lt
  simp only [List.getElem?_cons_zero] at cE
  clear hq ebB ebr ebE hB r0 r1 r2 d1 d2 d3 d4 d5
  go_wp2_with fail
  with_reducible refine Calls.mono (CA.out _ _ HB1.out SL.out) ?_
  rintro e w2 ⟨rfl, hb⟩
  replace R1 := Lib.hid (R1.out.next hb)
  replace BB := Lib.hid (Below.andThen BB.out hb)
  clear hb cE lE
  have c1 := R1.out.cell 0
  have l1 := R1.out.lt
  have f1 := R1.out.frozen 0
  simp only [List.getElem?_cons_zero] at c1
  go_wp2_with fail
  have RX := R1.out.set 0 (.bool false)
  have cx := RX.cell 0
  simp only [List.set_cons_zero, List.getElem?_cons_zero] at cx
  clear c1
  refine bodyPost_ret (v := .bool false) (by first | (simp [results, Tryd.results24, go_sem]; done) | simp [results, Tryd.results24, go_sem, *]) rfl ⟨rfl, BB.out.setCell (p := ⟨br, 0, none⟩) HS.out _⟩
end Bk
end Go.Proofs.YtnhlhoijajhcjaaDoor
