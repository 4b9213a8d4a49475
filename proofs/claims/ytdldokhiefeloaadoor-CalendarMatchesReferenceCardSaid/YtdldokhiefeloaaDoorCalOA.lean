/- before; the printed date and time as bytes. -/
import Derived.Test.YtdldokhiefeloaaDoorCalX
import Derived.Test.YtdldokhiefeloaaDoorCalO
namespace Go.Proofs.YtdldokhiefeloaaDoor
open Go.RowKit

set_option maxRecDepth 100000 in
set_option maxHeartbeats 4000000 in
theorem before_any (a b : Civ) (w : World) :
    Calls Tryd.prog 53 #[civA a, civA b] w fun e w' => e = .returned (.bool (beforeB a b)) ∧ Below w.heap.size w w' := by
  obtain ⟨R, hR⟩ : ∃ R, R = beforeB a b := ⟨_, rfl⟩
  rw [← hR]
  have HR := Lib.hid hR
  clear hR
  obtain ⟨a1, a2, a3, a4, a5, a6⟩ := a
  obtain ⟨b1, b2, b3, b4, b5, b6⟩ := b
  have HI := Lib.hid (show civI ⟨a1, a2, a3, a4, a5, a6⟩ = [a1, a2, a3, a4, a5] ∧ civI ⟨b1, b2, b3, b4, b5, b6⟩ = [b1, b2, b3, b4, b5] from ⟨rfl, rfl⟩)
  go_enter Tryd.func53, Tryd.ntmps53
  go_wp2_with fail
  have Rx : Row ((((w.alloc (.cells #[.int .i64 a1, .int .i64 a2, .int .i64 a3, .int .i64 a4, .int .i64 a5, .int .i64 a6] 57)).alloc (.cells #[.int .i64 b1, .int .i64 b2, .int .i64 b3, .int .i64 b4, .int .i64 b5, .int .i64 b6] 57)).alloc (.cells #[.int .i64 a1, .int .i64 a2, .int .i64 a3, .int .i64 a4, .int .i64 a5] 3)).alloc (.cells #[.int .i64 b1, .int .i64 b2, .int .i64 b3, .int .i64 b4, .int .i64 b5] 3)) (w.heap.size + 1 + 1) 3 [.int .i64 a1, .int .i64 a2, .int .i64 a3, .int .i64 a4, .int .i64 a5] := by
    have h := (Row.new ((w.alloc (.cells #[.int .i64 a1, .int .i64 a2, .int .i64 a3, .int .i64 a4, .int .i64 a5, .int .i64 a6] 57)).alloc (.cells #[.int .i64 b1, .int .i64 b2, .int .i64 b3, .int .i64 b4, .int .i64 b5, .int .i64 b6] 57)) 3 [.int .i64 a1, .int .i64 a2, .int .i64 a3, .int .i64 a4, .int .i64 a5]).alloc (.cells #[.int .i64 b1, .int .i64 b2, .int .i64 b3, .int .i64 b4, .int .i64 b5] 3)
    rw [World.size_alloc, World.size_alloc] at h
    exact h
  have Ry : Row ((((w.alloc (.cells #[.int .i64 a1, .int .i64 a2, .int .i64 a3, .int .i64 a4, .int .i64 a5, .int .i64 a6] 57)).alloc (.cells #[.int .i64 b1, .int .i64 b2, .int .i64 b3, .int .i64 b4, .int .i64 b5, .int .i64 b6] 57)).alloc (.cells #[.int .i64 a1, .int .i64 a2, .int .i64 a3, .int .i64 a4, .int .i64 a5] 3)).alloc (.cells #[.int .i64 b1, .int .i64 b2, .int .i64 b3, .int .i64 b4, .int .i64 b5] 3)) (w.heap.size + 1 + 1 + 1) 3 [.int .i64 b1, .int .i64 b2, .int .i64 b3, .int .i64 b4, .int .i64 b5] := by
    have h := Row.new (((w.alloc (.cells #[.int .i64 a1, .int .i64 a2, .int .i64 a3, .int .i64 a4, .int .i64 a5, .int .i64 a6] 57)).alloc (.cells #[.int .i64 b1, .int .i64 b2, .int .i64 b3, .int .i64 b4, .int .i64 b5, .int .i64 b6] 57)).alloc (.cells #[.int .i64 a1, .int .i64 a2, .int .i64 a3, .int .i64 a4, .int .i64 a5] 3)) 3 [.int .i64 b1, .int .i64 b2, .int .i64 b3, .int .i64 b4, .int .i64 b5]
    rw [World.size_alloc, World.size_alloc, World.size_alloc] at h
    exact h
  have BW : Below w.heap.size w ((((w.alloc (.cells #[.int .i64 a1, .int .i64 a2, .int .i64 a3, .int .i64 a4, .int .i64 a5, .int .i64 a6] 57)).alloc (.cells #[.int .i64 b1, .int .i64 b2, .int .i64 b3, .int .i64 b4, .int .i64 b5, .int .i64 b6] 57)).alloc (.cells #[.int .i64 a1, .int .i64 a2, .int .i64 a3, .int .i64 a4, .int .i64 a5] 3)).alloc (.cells #[.int .i64 b1, .int .i64 b2, .int .i64 b3, .int .i64 b4, .int .i64 b5] 3)) := by (repeat' first | with_reducible exact Below.refl _ _ | with_reducible assumption | (with_reducible refine below_drewN ?_ _) | (with_reducible refine Below.drew ?_) | (with_reducible refine Below.alloc ?_ ?_ _) | (with_reducible refine Below.setCell ?_ ?_ _) | omega | (simp; done) | (simp; omega))
  generalize ((((w.alloc (.cells #[.int .i64 a1, .int .i64 a2, .int .i64 a3, .int .i64 a4, .int .i64 a5, .int .i64 a6] 57)).alloc (.cells #[.int .i64 b1, .int .i64 b2, .int .i64 b3, .int .i64 b4, .int .i64 b5, .int .i64 b6] 57)).alloc (.cells #[.int .i64 a1, .int .i64 a2, .int .i64 a3, .int .i64 a4, .int .i64 a5] 3)).alloc (.cells #[.int .i64 b1, .int .i64 b2, .int .i64 b3, .int .i64 b4, .int .i64 b5] 3)) = w4 at *
  have HX := Lib.hid Rx
  have HY := Lib.hid Ry
  have HBW := Lib.hid BW
  clear Rx Ry BW
  obtain ⟨xs, hx⟩ : ∃ xs, xs = [a1, a2, a3, a4, a5] := ⟨_, rfl⟩
  obtain ⟨ys, hy⟩ : ∃ ys, ys = [b1, b2, b3, b4, b5] := ⟨_, rfl⟩
  have lx : xs.length = 5 := by rw [hx]; rfl
  have ly : ys.length = 5 := by rw [hy]; rfl
  have HE := Lib.hid (show R = lexL xs ys by rw [HR.out]; unfold beforeB; rw [HI.out.1, HI.out.2, hx, hy])
  have HX2 := Lib.hid (show Row w4 (w.heap.size + 1 + 1) 3 (xs.map (Value.int .i64)) by rw [hx]; exact HX.out)
  have HY2 := Lib.hid (show Row w4 (w.heap.size + 1 + 1 + 1) 3 (ys.map (Value.int .i64)) by rw [hy]; exact HY.out)
  clear HX HY HI HR hx hy
  go_loopw [7] (fun i wr => ∃ k : Nat, k ≤ 5 ∧ i = .int .i64 k ∧ (∀ j, j < k → xs[j]? = ys[j]?) ∧ Row wr (w.heap.size + 1 + 1) 3 (xs.map (Value.int .i64)) ∧ Row wr (w.heap.size + 1 + 1 + 1) 3 (ys.map (Value.int .i64)) ∧ Below w.heap.size w wr) (fun i _ => 5 - (intOf i).toNat)
  case atStart => exact ⟨0, by omega, rfl, fun j hj => absurd hj (Nat.not_lt_zero _), HX2.out, HY2.out, HBW.out⟩
  case round =>
    obtain ⟨k, hk, rfl, hg, Rx, Ry, BW⟩ := hrel
    clear HX2 HY2 HBW
    by_cases hlt : k < 5
    · obtain ⟨x, ex⟩ : ∃ x, xs[k]? = some x := ⟨_, List.getElem?_eq_getElem (by omega)⟩
      obtain ⟨y, ey⟩ : ∃ y, ys[k]? = some y := ⟨_, List.getElem?_eq_getElem (by omega)⟩
      have cx : wr.cell? ⟨w.heap.size + 1 + 1, k, none⟩ = some (.int .i64 x) := by rw [Rx.cell, List.getElem?_map, ex]; rfl
      have cy : wr.cell? ⟨w.heap.size + 1 + 1 + 1, k, none⟩ = some (.int .i64 y) := by rw [Ry.cell, List.getElem?_map, ey]; rfl
      have ltx := Rx.lt
      have lty := Ry.lt
      have HH := Lib.hid (And.intro hg (And.intro Rx (And.intro Ry BW)))
      have LA := Lib.hid (fun hne => HE.out.trans (lexL_at k xs ys x y ex ey hg hne))
      have EK := Lib.hid (show x = y → xs[k]? = ys[k]? by intro h; rw [ex, ey, h])
      clear hg Rx Ry BW ex ey
      by_cases hxy : x = y
      · have hn : (x != y) = false := by rw [hxy]; exact bne_self_eq_false _
        have HK := Lib.hid (EK.out hxy)
        clear LA EK hxy
        go_wp2_with fail
        refine wp_region_kin (by kernel_rfl) (by kernel_rfl) (0) wr.heap.size (by first | assumption | (simp; done) | (simp; omega) | omega | (have := HS.out; omega)) (fun hk => ?_)
        repeat (go_big_quiet_step (fail))
        refine wpQuiet_nil ?_
        clear hk
        intro W5 hb5
        obtain ⟨hc5, hf5, hz5⟩ := after (B := 0) wr.heap.size hb5 (by first | assumption | (simp; done) | (simp; omega) | omega | (have := HS.out; omega)); have HB5 := Lib.hid hb5; clear hb5
        go_wp2_with fail
        go_roundw
        case rel =>
          obtain ⟨hg, Rx, Ry, BW⟩ := HH.out
          refine ⟨k + 1, by omega, by go_num, fun j hj => ?_, Rx.next HB5.out, Ry.next HB5.out, Below.andThen BW HB5.out⟩
          by_cases hjk : j < k
          · exact hg j hjk
          · obtain rfl : j = k := by omega
            exact HK.out
        case measure => simp [intOf]; omega
      · have hn : (x != y) = true := by rw [bne_iff_ne]; exact hxy
        have RV := Lib.hid (LA.out hxy)
        clear LA EK hxy
        go_wp2_with fail
        refine wp_region_kin (by kernel_rfl) (by kernel_rfl) (0) wr.heap.size (by first | assumption | (simp; done) | (simp; omega) | omega | (have := HS.out; omega)) (fun hk => ?_)
        repeat (go_big_quiet_step (fail))
        refine wpQuiet_nil ?_
        clear hk
        intro W5 hb5
        obtain ⟨hc5, hf5, hz5⟩ := after (B := 0) wr.heap.size hb5 (by first | assumption | (simp; done) | (simp; omega) | omega | (have := HS.out; omega)); have HB5 := Lib.hid hb5; clear hb5
        have ltx5 : w.heap.size + 1 + 1 < W5.heap.size := by omega
        have lty5 : w.heap.size + 1 + 1 + 1 < W5.heap.size := by omega
        go_wp2_with fail
        refine wp_region_kin (by kernel_rfl) (by kernel_rfl) (0) W5.heap.size (by first | assumption | (simp; done) | (simp; omega) | omega | (have := HS.out; omega)) (fun hk => ?_)
        repeat (go_big_quiet_step (fail))
        refine wpQuiet_nil ?_
        clear hk
        intro W6 hb6
        obtain ⟨hc6, hf6, hz6⟩ := after (B := 0) W5.heap.size hb6 (by first | assumption | (simp; done) | (simp; omega) | omega | (have := HS.out; omega)); have HB6 := Lib.hid hb6; clear hb6
        go_wp2
        go_ret
        obtain ⟨hg, Rx, Ry, BW⟩ := HH.out
        refine ⟨?_, Below.andThen (Below.andThen BW HB5.out) HB6.out⟩
        rw [RV.out]
        rfl
    · obtain rfl : k = 5 := by omega
      have RF := Lib.hid (show R = false by
        rw [HE.out, show xs = ys from List.ext_getElem? (fun j => by
          by_cases hj : j < 5
          · exact hg j hj
          · rw [List.getElem?_eq_none (by omega), List.getElem?_eq_none (by omega)])]
        exact lexL_self ys)
      obtain rfl := RF.out
      go_wp2_with fail
      go_ret
      exact ⟨rfl, BW⟩
end Go.Proofs.YtdldokhiefeloaaDoor
