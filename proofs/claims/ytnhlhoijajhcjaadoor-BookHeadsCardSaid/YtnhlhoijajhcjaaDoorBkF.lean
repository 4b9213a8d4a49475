/- reversed: is a posting taken back by one of these? -/
import Derived.Test.YtnhlhoijajhcjaaDoorBkE
import Derived.Test.YtnhlhoijajhcjaaDoorIterN
import Derived.RangeFuncBox
set_option linter.unusedVariables false
set_option linter.unusedSimpArgs false
set_option linter.unnecessarySimpa false
namespace Go.Proofs.YtnhlhoijajhcjaaDoor
open Go.RowKit Go.Shelf
attribute [local go_sem] Oper.semAt_some
namespace Bk
open Sq
theorem rows4 (w : World) (t0 t1 t2 t3 : TypeId) (C0 C1 C2 C3 : List Value) (W : World) (e : W = (((w.alloc (.cells C0.toArray t0)).alloc (.cells C1.toArray t1)).alloc (.cells C2.toArray t2)).alloc (.cells C3.toArray t3)) :
    Row W w.heap.size t0 C0 ∧ Row W (w.heap.size + 1) t1 C1 ∧ Row W (w.heap.size + 1 + 1) t2 C2 ∧ Row W (w.heap.size + 1 + 1 + 1) t3 C3 ∧ Below w.heap.size w W ∧ W.heap.size = w.heap.size + 4 := by
  subst e
  have h0 := Row.new w t0 C0
  have h1 := Row.new (w.alloc (.cells C0.toArray t0)) t1 C1
  have h2 := Row.new ((w.alloc (.cells C0.toArray t0)).alloc (.cells C1.toArray t1)) t2 C2
  have h3 := Row.new (((w.alloc (.cells C0.toArray t0)).alloc (.cells C1.toArray t1)).alloc (.cells C2.toArray t2)) t3 C3
  simp only [World.size_alloc] at h1 h2 h3
  exact ⟨((h0.alloc _).alloc _).alloc _, (h1.alloc _).alloc _, h2.alloc _, h3, by (repeat' first | exact Below.refl _ _ | assumption | (refine below_drewN ?_ _) | (refine Below.drew ?_) | (refine Below.alloc ?_ ?_ _) | (refine Below.setCell ?_ ?_ _) | (simp; done) | (simp; omega) | omega), by simp⟩
theorem keep_row {X Y : World} {row : Option Nat} {b : Nat} {t : TypeId} {V : List Value} (h : Row X b t V) (hg : X.grownBy Y row) (hr : ∀ r, row = some r → r ≠ b) : Row Y b t V := (hg.block _ h.lt (fun e => hr _ e.symm rfl)).trans h
def isRev (i : Int) (p : Po) : Bool := decide (p.kind = 2 ∧ p.of = i)
theorem rev_none {l : List Po} {i : Int} (h : flt (isRev i) l l.length = []) : rev l i = false := by
  cases e : rev l i with
  | false => rfl
  | true =>
    obtain ⟨k, hk, h1, h2⟩ := rev_iff.1 e
    have : (k, at' l k) ∈ flt (isRev i) l l.length := flt_mem.2 ⟨hk, rfl, decide_eq_true ⟨h1, h2⟩⟩
    rw [h] at this
    cases this
theorem rev_some {l : List Po} {i : Int} {x : Nat × Po} (h : x ∈ flt (isRev i) l l.length) : rev l i = true := by
  obtain ⟨h1, h2, h3⟩ := flt_mem.1 h
  rw [h2] at h3
  obtain ⟨h4, h5⟩ := of_decide_eq_true h3
  exact rev_iff.2 ⟨x.1, h1, h4, h5⟩
set_option maxRecDepth 100000 in
set_option maxHeartbeats 4000000 in
theorem reversed_any (i : Int) (o : Option Addr) (N c : Nat) (l : List Po) (w : World) (hl : l.length = N) (hN : N ≤ 1000000) (hS : Sl poE w o l) :
    Calls Tryd.prog 48 #[.slice o N c, .int .i64 i] w fun e w' => e = .returned (.bool (rev l i)) ∧ Below w.heap.size w w' := by
  refine (callsIn_wide (n := 3)).1 ?_
  refine callsIn_of_wp_marks Tryd.func48 rfl trivial ?_
  simp only [Tryd.ntmps48, List.size_toArray, List.length_cons, List.length_nil, Nat.reduceAdd, Nat.reduceSub, Array.replicate_succ, Array.replicate_zero, List.push_toArray, List.append_toArray, List.nil_append, List.cons_append]
  gi_wp2_with (refine ⟨trivial, ?_⟩; gi_at_call 46; refine (callsIn_wide.2 (choose_any _ _ _ _ _ _)).mono ?_; rintro e w' ⟨rfl, rfl⟩)
  refine wpIn_named fun w3 e3 => ?_
  obtain ⟨bn, ebn⟩ : ∃ b, b = w.heap.size := ⟨_, rfl⟩
  obtain ⟨br, ebr⟩ : ∃ b, b = w.heap.size + 1 := ⟨_, rfl⟩
  obtain ⟨be, ebe⟩ : ∃ b, b = w.heap.size + 1 + 1 := ⟨_, rfl⟩
  obtain ⟨bi, ebi⟩ : ∃ b, b = w.heap.size + 1 + 1 + 1 := ⟨_, rfl⟩
  obtain ⟨R0, R1, R2, R3, B3, S3⟩ := rows4 w 3 4 77 85 [.int .i64 i] [.bool false] [.slice o N c] [fnC 70 #[ptV w.heap.size]] w3 e3
  rw [← ebi, ← ebe, ← ebr, ← ebn]
  rw [← ebn] at R0
  rw [← ebr] at R1
  rw [← ebe] at R2
  rw [← ebi, ← ebn] at R3
  clear e3
  have hY0 : YW o N c l be bi (fnC 70 #[ptV bn]) w3 := ⟨R2.lt, R2.cell 0, R3.lt, R3.cell 0, hS.next B3⟩
  have HE := Lib.hid (show bn = w.heap.size ∧ br = w.heap.size + 1 ∧ be = w.heap.size + 1 + 1 ∧ bi = w.heap.size + 1 + 1 + 1 ∧ w3.heap.size = w.heap.size + 4 from ⟨ebn, ebr, ebe, ebi, S3⟩)
  clear ebn ebr ebe ebi S3
  have hP0 : Has1 w3 bn (.int .i64 i) := ⟨R0.lt, R0.cell 0⟩
  refine wpIn_rangeFunc_cellN rfl (by omega) (gf := 69) (lb := #[ptV be, ptV bi]) rfl trivial (enters_of Tryd.func69 (by kernel_rfl) rfl) (w3.heap.size + 2) (by omega)
    (seqRev bn (isRev i) (fun W => Has1 W bn (.int .i64 i)) (fun p _ W h => isRev_any bn i p W h) 2 (by omega) o N c hl hN be bi (w3.heap.size + 2)) (fun o o' => by simp) (fun _ => rfl)
    (fun pre W => Below w3.heap.size w3 W ∧ pre = [])
    (fun c pre W => c = .ret ∧ (∃ x, x ∈ pre) ∧ Row W br 4 [.bool true] ∧ Below w.heap.size w W)
    (OwnFrom.and (ownFrom_below (Nat.le_refl _) (Nat.le_refl _)) (fun s X Y row hs _ _ => hs))
    (fun c s X Y row ⟨hc, hx, hr, hb⟩ hg hrow => ⟨hc, hx, keep_row hr hg (fun r e => by have := (hrow r e).1; have := HE.out; omega), hb.grown hg hb.size (fun k e => by have := (hrow k e).1; have := HE.out; omega)⟩)
    (fun s X Y ⟨h1, h2⟩ hg _ => ⟨h1.grown hg h1.size (fun k e => by cases e; have := HE.out; omega), h2⟩)
    (fun c s X Y ⟨hc, hx, hr, hb⟩ hg _ => ⟨hc, hx, keep_row hr hg (fun r e => by cases e; have := HE.out; omega), hb.grown hg hb.size (fun k e => by cases e; have := HE.out; omega)⟩)
    (fun s X h => ⟨hY0.next h.1, has1 hP0 h.1⟩)
    ⟨Below.refl _ _, rfl⟩
    (fun x => { tmps := #[.slice o N c, .int .i64 i, undef, ptV bn, ptV br, .slice o N c, fnC 70 #[ptV bn], fnC 69 #[ptV be, ptV bi], .int .i64 (x.1 : Int), x.2.v], defers := [] })
    ?assign ?body ?done ?stop
  case assign =>
    intro lid x W K _ hK
    simp only [encP]
    gi_wp2
    simp only [List.zip_toArray, List.zip_cons_cons, List.zip_nil_left, List.zip_nil_right, List.foldl_toArray, List.foldl_cons, List.foldl_nil, List.setIfInBounds_toArray, List.set_cons_succ, List.set_cons_zero]
    exact hK
  case body =>
    rintro lid pre x W ⟨hB, rfl⟩ hpre hBs
    have Q1 := R1.next hB
    have q0 := Q1.cell 0
    simp only [List.getElem?_cons_zero] at q0
    have f0 := Q1.frozen 0
    have l0 := Q1.lt
    have KK := Lib.hid (And.intro Q1 hB)
    clear hB Q1
    gi_wp2
    obtain ⟨Q1, hB⟩ := KK.out
    exact ⟨KeepsOthers.setCell _ _ _, rfl, ⟨x, by simp⟩, Q1.set 0 _, (Below.andThen B3 hB).setCell (p := ⟨br, 0, none⟩) (by show w.heap.size ≤ br; have := HE.out; omega) _⟩
  case done =>
    rintro W ⟨hB, hall⟩ hK
    have Q1 := R1.next hB
    have q0 := Q1.cell 0
    simp only [List.getElem?_cons_zero] at q0
    have f0 := Q1.frozen 0
    have l0 := Q1.lt
    have HR := Lib.hid (rev_none hall)
    have KK := Lib.hid (And.intro hB (And.intro hK Q1))
    clear hB Q1 hall
    gi_wp2
    obtain ⟨hB, hK', Q1⟩ := KK.out
    rw [HR.out]
    have P1 := Q1.set 0 (.bool false)
    have K4 : (W.setCell ⟨br, 0, none⟩ (.bool false)).heap[w3.heap.size]? = some (.deferred (some [])) := (Below.heap_setCell _ _ _ _ (show w3.heap.size ≠ br by have := HE.out; omega)).trans hK'
    have B4 : Below w.heap.size w (W.setCell ⟨br, 0, none⟩ (.bool false)) := (Below.andThen B3 hB).setCell (p := ⟨br, 0, none⟩) (by show w.heap.size ≤ br; have := HE.out; omega) _
    clear q0 f0 l0 hK hK' KK
    simp only [List.set_cons_zero] at P1
    generalize W.setCell ⟨br, 0, none⟩ (.bool false) = W4 at *
    refine ⟨by simp, .inl ⟨_, _, rfl, run_takeDeferred K4, ?_⟩⟩
    have hr' : Row (W4.putObj w3.heap.size (.deferred none)) br 4 [.bool false] := (World.putObj_heap_other (by have := HE.out; omega)).trans P1
    have y0 := hr'.cell 0
    simp only [List.getElem?_cons_zero] at y0
    exact ⟨.bool false, by simp [results, Tryd.results48, go_sem, y0], rfl, B4.trans (belowK_b (w := w) (Nat.le_refl _) W4 _ _ _ (by have := HE.out; omega) K4 rfl rfl)⟩
  case stop =>
    rintro c pre W hpre ⟨rfl, ⟨x, hx⟩, hr, hb⟩ hK
    gi_wp2
    rw [rev_some (hpre.subset hx)]
    refine ⟨by simp, .inl ⟨_, _, rfl, run_takeDeferred hK, ?_⟩⟩
    have hr' : Row (W.putObj w3.heap.size (.deferred none)) br 4 [.bool true] := (World.putObj_heap_other (by have := HE.out; omega)).trans hr
    have y0 := hr'.cell 0
    simp only [List.getElem?_cons_zero] at y0
    exact ⟨.bool true, by simp [results, Tryd.results48, go_sem, y0], rfl, hb.trans (belowK_b (w := w) (Nat.le_refl _) W _ _ _ (by have := HE.out; omega) hK rfl rfl)⟩
end Bk
end Go.Proofs.YtnhlhoijajhcjaaDoor
