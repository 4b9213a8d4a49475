/- The function that hands out the months. -/
import Derived.Test.YtdldokhiefeloaaDoorCalM
import Derived.Test.YtdldokhiefeloaaDoorIterY
import Derived.Stop.RegionWithIn
namespace Go.Proofs.YtdldokhiefeloaaDoor
open Go.RowKit Go.Shelf
attribute [local go_sem] Oper.semAt_some

theorem grown_set (A : World) (b o : Nat) (v : Value) : A.grownBy (A.setCell ⟨b, o, none⟩ v) (some b) :=
  ⟨rfl, rfl, rfl, by simp, fun k _ hne => Below.heap_setCell _ _ _ _ (fun e => hne (by rw [e]))⟩
def monthV (k : Nat) : List Value := [.int .i64 (stM k).1, .int .i64 (stM k).2.1, .int .i64 (stM k).2.2]
set_option maxRecDepth 100000 in
set_option maxHeartbeats 2000000 in
theorem months_seq (n : Nat) (hn : 1 ≤ n) (B : Nat) :
    SeqCellY Fence.wide n Tryd.prog 92 #[] (fun k : Nat => #[.agg #[.int .i64 (stM k).1, .int .i64 (stM k).2.1, .int .i64 (stM k).2.2]]) (List.range 1201) B (fun W => W.heap.size = B) CTab := by
  intro l J Jx W hZ hJT hJ hJx hY h0
  subst hZ
  refine callsIn_of_wp Tryd.func92 rfl trivial ?_ rfl
  simp only [Tryd.ntmps92, List.size_toArray, List.length_cons, List.length_nil, Nat.reduceAdd, Nat.reduceSub, Array.replicate_succ, Array.replicate_zero, List.push_toArray, List.append_toArray, List.nil_append, List.cons_append, Array.append_empty]
  gi_wp2
  have R0 := Row.new W 85 (monthV 0)
  have J0 : J [] (W.alloc (.cells (monthV 0).toArray 85)) := hJ _ _ _ h0 (World.grownBy_alloc _ _ _) (KeepsOthers.alloc _ _)
  have JS : ∀ s A o v, J s A → J s (A.setCell ⟨W.heap.size, o, none⟩ v) := fun s A o v h => hJ _ _ _ h (grown_set _ _ _ _) (KeepsOthers.setCell _ _ _)
  have JD : ∀ s A, J s A → J s A.drew := fun s A h => hJ _ _ _ h ⟨rfl, rfl, rfl, Nat.le_refl _, fun _ _ _ => rfl⟩ ⟨Nat.le_refl _, fun _ _ h _ => h⟩
  gi_loopw [] (fun wr => ∃ k : Nat, k ≤ 1201 ∧ J (List.range k) wr ∧ Row wr W.heap.size 85 (monthV k))
    (fun wr => (1201 * 40 - intOf ((wr.cell? ⟨W.heap.size, 2, none⟩).getD undef)).toNat)
  case atStart => exact ⟨0, by omega, J0, R0⟩
  case round =>
    obtain ⟨k, hk, hJs, hR⟩ := hrel
    obtain ⟨g1, g2⟩ := stM_ym k
    have g3 := firstM_bd k (by omega)
    have g4 := lastM k
    unfold firstM at g3
    rcases hs : stM k with ⟨y, m, f⟩
    rw [hs] at g1 g2 g3 g4
    dsimp only at g1 g2 g3 g4
    have hV : monthV k = [.int .i64 y, .int .i64 m, .int .i64 f] := by simp [monthV, hs]
    rw [hV] at hR
    have c0 := hR.cell 0
    have c1 := hR.cell 1
    have c2 := hR.cell 2
    simp only [List.getElem?_cons_zero, List.getElem?_cons_succ] at c0 c1 c2
    by_cases hlt : k < 1201
    · have hy1 : y < 2100 := g4.2 hlt
      have hp : List.range k ++ [k] <+: List.range 1201 := by
        rw [← List.range_succ]
        exact ⟨(List.range (1201 - (k + 1))).map (k + 1 + ·), by rw [← List.range_add, show k + 1 + (1201 - (k + 1)) = 1201 by omega]⟩
      obtain ⟨fn, tmps, assign, body, hyy, hRd⟩ := hY (List.range k) k wr hJs hp hR.lt
      simp only [hs] at hyy
      have RR := Lib.hid hR
      have HP := Lib.hid hp
      have hm : 1 ≤ m ∧ m ≤ 12 := by omega
      have hy0 : 1999 ≤ y := by omega
      have v0 : 28 ≤ daysZ y m := daysZ_low (by omega)
      have v1 := (daysZ_bd y m).2
      have D := Lib.hid (fun w T => days_any y m w T)
      have N := Lib.hid (show stM (k + 1) = (if m = 12 then y + 1 else y, if m = 12 then 1 else m + 1, f + daysZ y m) by show nextM (stM k) = _; rw [hs]; rfl)
      generalize daysZ y m = v at *
      have hm1 := hm.1
      have hm2 := hm.2
      have G3 := Lib.hid g3
      obtain ⟨g31, g32⟩ := g3
      have f0 : -31 ≤ f := by omega
      have f1 : f ≤ 40000 := by omega
      clear g1 g2 g4 hp hV hs hR hm g31 g32
      gi_wp2
      refine hRd.mono ?_
      rintro e W3 (⟨rfl, hJ3, hk3⟩ | ⟨rfl, hJx3⟩)
      · have R3 : Row W3 W.heap.size 85 [.int .i64 y, .int .i64 m, .int .i64 f] := hk3.trans RR.out
        have RQ := Lib.hid R3
        have HT3 := Lib.hid (hJT _ _ hJ3)
        have d0 := R3.cell 0
        have d1 := R3.cell 1
        have d2 := R3.cell 2
        simp only [List.getElem?_cons_zero, List.getElem?_cons_succ] at d0 d1 d2
        have e0 := R3.frozen 0
        have e1 := R3.frozen 1
        have e2 := R3.frozen 2
        have HJ3 := Lib.hid hJ3
        clear hJ3 hk3 R3
        have hT3d := Lib.hid (HT3.out.next (Below.refl W3.heap.size W3).drew)
        by_cases hm12 : m = 12
        · subst hm12
          gi_wp2
          first | (gi_region_with (refine ⟨trivial, ?_⟩; gi_at_call 51; refine (callsIn_wide.2 (D.out _ hT3d.out)).mono ?_; rintro e w' ⟨rfl, rfl⟩)) | fail
          all_goals
            gi_wp2
            have RF := ((((RQ.out.set 2 (.int .i64 (f + v))).set 1 (.int .i64 13)).set 0 (.int .i64 (y + 1))).set 1 (.int .i64 1)).drew
            have RC := RF.cell 2
            simp only [List.set_cons_succ, List.set_cons_zero, List.getElem?_cons_zero, List.getElem?_cons_succ] at RC
            go_roundw
            case rel =>
              refine ⟨k + 1, by omega, ?_, ?_⟩
              · rw [List.range_succ]
                exact JD _ _ (JS _ _ _ _ (JS _ _ _ _ (JS _ _ _ _ (JS _ _ _ _ HJ3.out))))
              · rw [show monthV (k + 1) = [.int .i64 (y + 1), .int .i64 1, .int .i64 (f + v)] by simp [monthV, N.out]]
                exact RF
            case measure =>
              rw [RC, c2]
              simp [intOf]
              omega
        · gi_wp2
          first | (gi_region_with (refine ⟨trivial, ?_⟩; gi_at_call 51; refine (callsIn_wide.2 (D.out _ hT3d.out)).mono ?_; rintro e w' ⟨rfl, rfl⟩)) | fail
          all_goals
            gi_wp2
            have RF := ((RQ.out.set 2 (.int .i64 (f + v))).set 1 (.int .i64 (m + 1))).drew
            have RC := RF.cell 2
            simp only [List.set_cons_succ, List.set_cons_zero, List.getElem?_cons_zero, List.getElem?_cons_succ] at RC
            go_roundw
            case rel =>
              refine ⟨k + 1, by omega, ?_, ?_⟩
              · rw [List.range_succ]
                exact JD _ _ (JS _ _ _ _ (JS _ _ _ _ HJ3.out))
              · rw [show monthV (k + 1) = [.int .i64 y, .int .i64 (m + 1), .int .i64 (f + v)] by simp [monthV, N.out, hm12]]
                exact RF
            case measure =>
              rw [RC, c2]
              simp [intOf]
              omega
      · gi_wp2
        refine bodyPost_ret (results_none rfl _ _ _) rfl ?_
        exact ⟨⟨_, rfl⟩, .inr ⟨_, HP.out, hJx3⟩⟩
    · obtain rfl : k = 1201 := by omega
      have hy1 : ¬ y < 2100 := fun h => absurd (g4.1 h) (by omega)
      clear g1 g2 g3 g4
      gi_wp2
      go_end0
      exact ⟨⟨_, rfl⟩, .inl hJs⟩
end Go.Proofs.YtdldokhiefeloaaDoor
