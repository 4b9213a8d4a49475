/- find: the first of the months with a property. -/
import Derived.Test.YtdldokhiefeloaaDoorCalJ
import Derived.RangeFuncBox
namespace Go.Proofs.YtdldokhiefeloaaDoor
open Go.RowKit Go.Shelf
attribute [local go_sem] Oper.semAt_some

theorem found_some {p : Nat → Bool} {pre0 : List Nat} {x : Nat} (hpre : pre0 ++ [x] <+: List.range 1201) (hp : p x = true) (ha : ∀ j ∈ pre0, p j = false) : foundR p = (stM x, true) := by
  obtain ⟨r, e⟩ := hpre
  have h : (List.range 1201).find? p = some x := by
    rw [← e, List.append_assoc, List.find?_append, List.find?_eq_none.2 (fun j hj => by simp [ha j hj])]
    simp [hp]
  unfold foundR
  rw [h]
theorem found_none {p : Nat → Bool} (ha : ∀ j ∈ List.range 1201, p j = false) : foundR p = ((0, 0, 0), false) := by
  unfold foundR
  rw [List.find?_eq_none.2 (fun j hj => by simp [ha j hj])]

set_option maxRecDepth 100000 in
set_option maxHeartbeats 2000000 in
theorem find_any (g : FuncId) (bs : Array Value) (p : Nat → Bool) (w : World) (T : CTab w) (EG : ∀ args w, (callFunc g args).run Tryd.prog w = .ok (.enter g args) w)
    (C : ∀ k W, k < 1201 → Below w.heap.size w W → Calls Tryd.prog g (#[.agg #[.int .i64 (stM k).1, .int .i64 (stM k).2.1, .int .i64 (stM k).2.2]] ++ bs) W fun e W' => e = .returned (.bool (p k)) ∧ Below W.heap.size W W') :
    Calls Tryd.prog 71 #[.func (.func g) #[] bs] w fun e w' => e = .returned (.tuple #[.agg #[.int .i64 (foundR p).1.1, .int .i64 (foundR p).1.2.1, .int .i64 (foundR p).1.2.2], .bool (foundR p).2]) ∧ Below w.heap.size w w' := by
  refine (callsIn_wide (n := 3)).1 ?_
  refine callsIn_of_wp_marks Tryd.func71 rfl trivial ?_
  simp only [Tryd.ntmps71, List.size_toArray, List.length_cons, List.length_nil, Nat.reduceAdd, Nat.reduceSub, Array.replicate_succ, Array.replicate_zero, List.push_toArray, List.append_toArray, List.nil_append, List.cons_append]
  gi_wp2_with (refine ⟨trivial, ?_⟩; gi_at_call 85; refine (callsIn_wide.2 (months_any _)).mono ?_; rintro e w' ⟨rfl, rfl⟩)
  obtain ⟨w3, e3⟩ : ∃ w3, w3 = ((w.alloc (.cells #[.func (.func g) #[] bs] 88)).alloc (.cells #[.int .i64 0, .int .i64 0, .int .i64 0] 85)).alloc (.cells #[.bool false] 4) := ⟨_, rfl⟩
  rw [← e3]
  have S3 : w3.heap.size = w.heap.size + 3 := by rw [e3]; simp
  have R0 : Row w3 w.heap.size 88 [.func (.func g) #[] bs] := by rw [e3]; exact ((Row.new w _ _).alloc _).alloc _
  have R1 : Row w3 (w.heap.size + 1) 85 [.int .i64 0, .int .i64 0, .int .i64 0] := by
    have h := Row.new (w.alloc (.cells #[.func (.func g) #[] bs] 88)) 85 [.int .i64 0, .int .i64 0, .int .i64 0]
    rw [World.size_alloc] at h
    rw [e3]
    exact h.alloc _
  have R2 : Row w3 (w.heap.size + 2) 4 [.bool false] := by
    have h := Row.new ((w.alloc (.cells #[.func (.func g) #[] bs] 88)).alloc (.cells #[.int .i64 0, .int .i64 0, .int .i64 0] 85)) 4 [.bool false]
    rw [World.size_alloc, World.size_alloc] at h
    rw [e3]
    exact h
  have B3 : Below w.heap.size w w3 := by rw [e3]; (repeat' first | exact Below.refl _ _ | assumption | (refine below_drewN ?_ _) | (refine Below.drew ?_) | (refine Below.alloc ?_ ?_ _) | (refine Below.setCell ?_ ?_ _) | (simp; done) | (simp; omega) | omega)
  clear e3
  have keep : ∀ {X Y : World} {row : Option Nat} {b : Nat} {t : TypeId} {V : List Value}, Row X b t V → X.grownBy Y row → (∀ r, row = some r → w.heap.size + 3 ≤ r) → b < w.heap.size + 3 → Row Y b t V := fun hr hg hrow hb =>
    (hg.block _ hr.lt (fun e => by have := hrow _ e.symm; omega)).trans hr
  refine wpIn_rangeFunc_cellY rfl (by omega) (gf := 92) (lb := #[]) rfl trivial (enters_of Tryd.func92 (by kernel_rfl) rfl) (w.heap.size + 5) (by rw [S3]; omega) (months_seq 2 (by omega) (w.heap.size + 5)) (fun o o' => by simp [S3]) (fun _ => rfl)
    (fun pre W => Below w3.heap.size w3 W ∧ ∀ j ∈ pre, p j = false)
    (fun c pre W => c = .ret ∧ (∃ pre0 x, pre = pre0 ++ [x] ∧ p x = true ∧ (∀ j ∈ pre0, p j = false) ∧ Row W (w.heap.size + 1) 85 (monthV x)) ∧ Row W (w.heap.size + 2) 4 [.bool true] ∧ Below w.heap.size w W)
    (OwnFrom.and (ownFrom_below (Nat.le_refl _) (Nat.le_refl _)) (fun s X Y row hs _ _ => hs))
    (fun c s X Y row ⟨hc, ⟨pre0, x, e, hx, ha, hr⟩, hr2, hb⟩ hg hrow => ⟨hc, ⟨pre0, x, e, hx, ha, keep hr hg (fun r e => by have := (hrow r e).1; omega) (by omega)⟩, keep hr2 hg (fun r e => by have := (hrow r e).1; omega) (by omega), hb.grown hg hb.size (fun k e => by have := (hrow k e).1; omega)⟩)
    (fun s X Y ⟨h1, h2⟩ hg _ => ⟨h1.grown hg h1.size (fun k e => by cases e; omega), h2⟩)
    (fun c s X Y ⟨hc, ⟨pre0, x, e, hx, ha, hr⟩, hr2, hb⟩ hg _ => ⟨hc, ⟨pre0, x, e, hx, ha, keep hr hg (fun r e => by cases e; omega) (by omega)⟩, keep hr2 hg (fun r e => by cases e; omega) (by omega), hb.grown hg hb.size (fun k e => by cases e; omega)⟩)
    (fun s X h => T.next (Below.andThen B3 h.1))
    ⟨Below.refl _ _, fun j hj => by cases hj⟩
    (fun x => .cells (monthV x).toArray 85)
    (fun x b => { tmps := #[.func (.func g) #[] bs, .pointer (some ⟨w.heap.size, 0, none⟩), .pointer (some ⟨w.heap.size + 1, 0, none⟩), .pointer (some ⟨w.heap.size + 1 + 1, 0, none⟩), .pointer (some ⟨b, 0, none⟩), .func (.func 92) #[] #[], .agg #[.int .i64 (stM x).1, .int .i64 (stM x).2.1, .int .i64 (stM x).2.2], undef, undef, undef, undef, undef], defers := [] })
    ?assign ?body ?done ?stop
  case assign =>
    intro l x W K hK
    gi_wp2
    exact hK
  case body =>
    rintro l pre x W b ⟨hB, hall⟩ hpre hblk hb1 hb2
    have hx : x < 1201 := List.mem_range.1 (hpre.subset (show x ∈ pre ++ [x] by simp))
    have RX : Row W b 85 [.int .i64 (stM x).1, .int .i64 (stM x).2.1, .int .i64 (stM x).2.2] := hblk
    have Q0 := R0.next hB
    have Q1 := R1.next hB
    have Q2 := R2.next hB
    have CC := Lib.hid (C x W hx (Below.andThen B3 hB))
    have r0 := Q0.cell 0
    have m0 := RX.cell 0
    have m1 := RX.cell 1
    have m2 := RX.cell 2
    simp only [List.getElem?_cons_zero, List.getElem?_cons_succ] at r0 m0 m1 m2
    have K := Lib.hid (And.intro hB (And.intro hall (And.intro RX (And.intro Q1 (And.intro Q2 hpre)))))
    have hbl := RX.lt
    have hMV := Lib.hid (show monthV x = [.int .i64 (stM x).1, .int .i64 (stM x).2.1, .int .i64 (stM x).2.2] from rfl)
    generalize (stM x).1 = y at *
    generalize (stM x).2.1 = m at *
    generalize (stM x).2.2 = f at *
    clear hB hall hpre hblk RX Q0 Q1 Q2
    have KOb : ∀ {X Y : World}, Below X.heap.size X Y → KeepsOthers X Y := fun h => ⟨h.size, fun k o hk _ => (h.block k (Array.getElem?_eq_some_iff.1 hk).1).trans hk⟩
    cases hp : p x
    · rw [hp] at CC
      gi_wp2_with (refine ⟨trivial, ?_⟩; rw [EG])
      refine ⟨trivial, ((callsIn_wide.2 CC.out).inRound l).mono ?_⟩
      rintro e W' ⟨rfl, hb'⟩
      gi_wp2
      obtain ⟨hB, hall, RX, Q1, Q2, hpre⟩ := K.out
      refine ⟨KOb hb', hb'.block _ (by omega), Below.andThen hB hb', fun j hj => ?_⟩
      rcases List.mem_append.1 hj with h | h
      · exact hall j h
      · rw [List.mem_singleton.1 h]
        exact hp
    · rw [hp] at CC
      gi_wp2_with (refine ⟨trivial, ?_⟩; rw [EG])
      refine ⟨trivial, ((callsIn_wide.2 CC.out).inRound l).mono ?_⟩
      rintro e W' ⟨rfl, hb'⟩
      obtain ⟨hB, hall, RX, Q1, Q2, hpre⟩ := K.out
      have X5 := RX.next hb'
      have Q5 := Q1.next hb'
      have Q6 := Q2.next hb'
      have x0 := X5.cell 0
      have x1 := X5.cell 1
      have x2 := X5.cell 2
      have q0 := Q5.cell 0
      have q1 := Q5.cell 1
      have q2 := Q5.cell 2
      have q3 := Q6.cell 0
      simp only [List.getElem?_cons_zero, List.getElem?_cons_succ] at x0 x1 x2 q0 q1 q2 q3
      have f0 := Q5.frozen 0
      have f1 := Q5.frozen 1
      have f2 := Q5.frozen 2
      have f3 := Q6.frozen 0
      have ne1 : b ≠ w.heap.size + 1 := by omega
      have ne2 : b ≠ w.heap.size + 2 := by omega
      have KK := Lib.hid (And.intro X5 (And.intro Q5 (And.intro Q6 hb')))
      clear hB hall RX Q1 Q2 hpre X5 Q5 Q6 hb'
      gi_wp2
      obtain ⟨X5, Q5, Q6, hb'⟩ := KK.out
      obtain ⟨hB, hall, RX, Q1, Q2, hpre⟩ := K.out
      refine ⟨?_, rfl, ⟨pre, x, rfl, hp, hall, ?_⟩, ?_, ?_⟩
      · exact ((((KOb hb').trans (KeepsOthers.setCell _ _ _)).trans (KeepsOthers.setCell _ _ _)).trans (KeepsOthers.setCell _ _ _)).trans (KeepsOthers.setCell _ _ _)
      · rw [hMV.out]
        exact (((Q5.set 0 _).set 1 _).set 2 _).other (by omega) _ _
      · exact (((Q6.other (by omega) _ _).other (by omega) _ _).other (by omega) _ _).set 0 _
      · exact ((((Below.andThen (Below.andThen B3 hB) hb').setCell (show w.heap.size ≤ w.heap.size + 1 by omega) _).setCell (show w.heap.size ≤ w.heap.size + 1 by omega) _).setCell (show w.heap.size ≤ w.heap.size + 1 by omega) _).setCell (show w.heap.size ≤ w.heap.size + 1 + 1 by omega) _
  case done =>
    rintro W ⟨hB, hall⟩ hK
    have Q1 := R1.next hB
    have Q2 := R2.next hB
    have q0 := Q1.cell 0
    have q1 := Q1.cell 1
    have q2 := Q1.cell 2
    have q3 := Q2.cell 0
    simp only [List.getElem?_cons_zero, List.getElem?_cons_succ] at q0 q1 q2 q3
    have f0 := Q1.frozen 0
    have f1 := Q1.frozen 1
    have f2 := Q1.frozen 2
    have f3 := Q2.frozen 0
    have KK := Lib.hid (And.intro hB (And.intro hall (And.intro hK (And.intro Q1 Q2))))
    clear hB hall Q1 Q2
    gi_wp2
    obtain ⟨hB, hall, hK', Q1, Q2⟩ := KK.out
    rw [found_none hall]
    have P1 := (((Q1.set 0 (.int .i64 0)).set 1 (.int .i64 0)).set 2 (.int .i64 0)).other (show w.heap.size + 1 ≠ w.heap.size + 1 + 1 by omega) 0 (.bool false)
    have P2 : Row ((((W.setCell ⟨w.heap.size + 1, 0, none⟩ (.int .i64 0)).setCell ⟨w.heap.size + 1, 1, none⟩ (.int .i64 0)).setCell ⟨w.heap.size + 1, 2, none⟩ (.int .i64 0)).setCell ⟨w.heap.size + 1 + 1, 0, none⟩ (.bool false)) (w.heap.size + 2) 4 [.bool false] :=
      (((Q2.other (by omega) _ _).other (by omega) _ _).other (by omega) _ _).set 0 _
    have K4 : ((((W.setCell ⟨w.heap.size + 1, 0, none⟩ (.int .i64 0)).setCell ⟨w.heap.size + 1, 1, none⟩ (.int .i64 0)).setCell ⟨w.heap.size + 1, 2, none⟩ (.int .i64 0)).setCell ⟨w.heap.size + 1 + 1, 0, none⟩ (.bool false)).heap[w3.heap.size]? = some (.deferred (some [])) :=
      (Below.heap_setCell _ _ _ _ (show w3.heap.size ≠ w.heap.size + 1 + 1 by omega)).trans ((Below.heap_setCell _ _ _ _ (show w3.heap.size ≠ w.heap.size + 1 by omega)).trans ((Below.heap_setCell _ _ _ _ (show w3.heap.size ≠ w.heap.size + 1 by omega)).trans ((Below.heap_setCell _ _ _ _ (show w3.heap.size ≠ w.heap.size + 1 by omega)).trans hK')))
    have B4 : Below w.heap.size w ((((W.setCell ⟨w.heap.size + 1, 0, none⟩ (.int .i64 0)).setCell ⟨w.heap.size + 1, 1, none⟩ (.int .i64 0)).setCell ⟨w.heap.size + 1, 2, none⟩ (.int .i64 0)).setCell ⟨w.heap.size + 1 + 1, 0, none⟩ (.bool false)) :=
      ((((Below.andThen B3 hB).setCell (show w.heap.size ≤ w.heap.size + 1 by omega) _).setCell (show w.heap.size ≤ w.heap.size + 1 by omega) _).setCell (show w.heap.size ≤ w.heap.size + 1 by omega) _).setCell (show w.heap.size ≤ w.heap.size + 1 + 1 by omega) _
    clear q0 q1 q2 q3 f0 f1 f2 f3 hK hK' KK
    simp only [List.set_cons_zero, List.set_cons_succ] at P1
    generalize ((((W.setCell ⟨w.heap.size + 1, 0, none⟩ (.int .i64 0)).setCell ⟨w.heap.size + 1, 1, none⟩ (.int .i64 0)).setCell ⟨w.heap.size + 1, 2, none⟩ (.int .i64 0)).setCell ⟨w.heap.size + 1 + 1, 0, none⟩ (.bool false)) = W4 at *
    refine ⟨by simp, .inl ⟨_, _, rfl, run_takeDeferred K4, ?_⟩⟩
    have hr' : Row (W4.putObj w3.heap.size (.deferred none)) (w.heap.size + 1) 85 [.int .i64 0, .int .i64 0, .int .i64 0] := (World.putObj_heap_other (by omega)).trans P1
    have hr2' : Row (W4.putObj w3.heap.size (.deferred none)) (w.heap.size + 2) 4 [.bool false] := (World.putObj_heap_other (by omega)).trans P2
    have y0 := hr'.cell 0
    have y1 := hr'.cell 1
    have y2 := hr'.cell 2
    have z0 := hr2'.cell 0
    simp only [List.getElem?_cons_zero, List.getElem?_cons_succ] at y0 y1 y2 z0
    exact ⟨.tuple #[.agg #[.int .i64 0, .int .i64 0, .int .i64 0], .bool false], by simp [results, Tryd.results71, go_sem, y0, y1, y2, z0], rfl, B4.trans (belowK_b (w := w) (Nat.le_refl _) W4 _ _ _ (by omega) K4 rfl rfl)⟩
  case stop =>
    rintro c pre W hpre ⟨rfl, ⟨pre0, x, rfl, hp, ha, hr⟩, hr2, hb⟩ hK
    gi_wp2
    rw [found_some hpre hp ha]
    refine ⟨by simp, .inl ⟨_, _, rfl, run_takeDeferred hK, ?_⟩⟩
    have hr' : Row (W.putObj w3.heap.size (.deferred none)) (w.heap.size + 1) 85 (monthV x) := (World.putObj_heap_other (by omega)).trans hr
    have hr2' : Row (W.putObj w3.heap.size (.deferred none)) (w.heap.size + 2) 4 [.bool true] := (World.putObj_heap_other (by omega)).trans hr2
    have y0 := hr'.cell 0
    have y1 := hr'.cell 1
    have y2 := hr'.cell 2
    have z0 := hr2'.cell 0
    simp only [monthV, List.getElem?_cons_zero, List.getElem?_cons_succ] at y0 y1 y2 z0
    exact ⟨.tuple #[.agg #[.int .i64 (stM x).1, .int .i64 (stM x).2.1, .int .i64 (stM x).2.2], .bool true], by simp [results, Tryd.results71, go_sem, y0, y1, y2, z0], rfl, hb.trans (belowK_b (w := w) (Nat.le_refl _) W _ _ _ (by omega) hK rfl rfl)⟩
end Go.Proofs.YtdldokhiefeloaaDoor
