/- The reference's Convert and Coarse. -/
import Derived.Test.YtdldokhiefeloaaDoorUnitR5
import Derived.Test.YtdldokhiefeloaaDoorBytes
import Derived.Deep.DeepCutAuto
namespace Go.Proofs.YtdldokhiefeloaaDoor
open Go.RowKit Go.ChangeShapes Go.WideShapes

set_option maxHeartbeats 1000000 in
theorem refConvert_any (lo hi u t c e : Int) (w : World) :
    Calls Tryd.prog 26 #[.agg #[.int .i64 lo, .int .i64 hi, .int .i64 u], .int .i64 t, .agg #[.int .i64 c, .int .i64 e]] w fun r w' => r = .returned (resV (convR lo hi u t c e)) ∧ Below w.heap.size w w' := by
  cases hk : knownB lo hi u
  · have G := Lib.hid (fun w => lit_b hk (givenR_any lo hi u w))
    rw [show resV (convR lo hi u t c e) = .tuple #[.agg #[.int .i64 0, .int .i64 0, .int .i64 0], .int .i64 50] by simp [convR, hk, resV, bad]]
    clear hk
    go_enter Tryd.func26, Tryd.ntmps26
    go_wp2_with fail
    refine wp_region_kin (by kernel_rfl) (by kernel_rfl) (w.heap.size) 3 (by first | assumption | (simp; done) | (simp; omega) | omega | (have := HS.out; omega)) (fun hk => ?_)
    repeat (go_big_quiet_step ((go_at_call 58; exact Calls.kin (G.out _))))
    refine wpQuiet_nil ?_
    clear hk
    intro W1 hb1
    obtain ⟨hc1, hf1, hz1⟩ := after (B := w.heap.size) 3 hb1 (by first | assumption | (simp; done) | (simp; omega) | omega | (have := HS.out; omega)); have HB1 := Lib.hid hb1; clear hb1
    go_wp2
    refine bodyPost_ret (v := _) (by first | (simp [results, Tryd.results26, go_sem]; done) | simp [results, Tryd.results26, go_sem, *]) rfl ⟨rfl, by (repeat' first | exact Below.refl _ _ | assumption | (refine Below.andThen ?_ HB1.out) | (exact HB1.out.size) | (refine below_drewN ?_ _) | (refine Below.drew ?_) | (refine Below.alloc ?_ ?_ _) | (refine Below.setCell ?_ ?_ _) | (simp; done) | (simp; omega) | omega)⟩
  · have G := Lib.hid (fun w => lit_b hk (givenR_any lo hi u w))
    have k := (knownB_iff _ _ _).1 hk
    cases hr : ratesB c e
    · have GR := Lib.hid (fun w => lit_b hr (ratesR_any c e w))
      rw [show resV (convR lo hi u t c e) = .tuple #[.agg #[.int .i64 0, .int .i64 0, .int .i64 0], .int .i64 50] by simp [convR, hr, resV, bad]]
      clear hk hr k
      go_enter Tryd.func26, Tryd.ntmps26
      go_wp2_with fail
      refine wp_region_kin (by kernel_rfl) (by kernel_rfl) (w.heap.size) 3 (by first | assumption | (simp; done) | (simp; omega) | omega | (have := HS.out; omega)) (fun hk => ?_)
      repeat (go_big_quiet_step (first | (go_at_call 58; exact Calls.kin (G.out _)) | (go_at_call 28; exact Calls.kin (GR.out _))))
      refine wpQuiet_nil ?_
      clear hk
      intro W1 hb1
      obtain ⟨hc1, hf1, hz1⟩ := after (B := w.heap.size) 3 hb1 (by first | assumption | (simp; done) | (simp; omega) | omega | (have := HS.out; omega)); have HB1 := Lib.hid hb1; clear hb1
      go_wp2
      refine bodyPost_ret (v := _) (by first | (simp [results, Tryd.results26, go_sem]; done) | simp [results, Tryd.results26, go_sem, *]) rfl ⟨rfl, by (repeat' first | exact Below.refl _ _ | assumption | (refine Below.andThen ?_ HB1.out) | (exact HB1.out.size) | (refine below_drewN ?_ _) | (refine Below.drew ?_) | (refine Below.alloc ?_ ?_ _) | (refine Below.setCell ?_ ?_ _) | (simp; done) | (simp; omega) | omega)⟩
    · have GR := Lib.hid (fun w => lit_b hr (ratesR_any c e w))
      by_cases ht : kindZ t = kindZ u
      · have K1 := Lib.hid (fun w => kindR_any t w)
        have K2 := Lib.hid (fun w => kindR_any u w)
        rw [conv_times hk hr ht]
        have wb := @worthR_bd u t c e hr
        have CW := Lib.hid (fun w => worthR_any u t c e w)
        generalize worthRN u t c e = N at *
        generalize worthRD u t c e = M at *
        rcases q : timesR lo hi t N M with ⟨L, H, U, E⟩
        have CT := Lib.hid (fun w => lit_res q (refTimes_any lo hi u t N M w (by omega) (by omega) (by omega) (by omega) (by omega) (by omega) (by omega) (by omega)))
        rw [show resV (⟨L, H, U, E⟩ : Res) = .tuple #[.agg #[.int .i64 L, .int .i64 H, .int .i64 U], .int .i64 E] from rfl]
        rw [ht] at K1
        clear hk hr k q wb ht
        go_enter Tryd.func26, Tryd.ntmps26
        go_wp2_with fail
        refine wp_region_kin (by kernel_rfl) (by kernel_rfl) (w.heap.size) 3 (by first | assumption | (simp; done) | (simp; omega) | omega | (have := HS.out; omega)) (fun hk => ?_)
        repeat (go_big_quiet_step (first | (go_at_call 58; exact Calls.kin (G.out _)) | (go_at_call 28; exact Calls.kin (GR.out _)) | (go_at_call 30; first | (with_reducible exact Calls.kin_same (K1.out _)) | (with_reducible exact Calls.kin_same (K2.out _)))))
        refine wpQuiet_nil ?_
        clear hk
        intro W1 hb1
        obtain ⟨hc1, hf1, hz1⟩ := after (B := w.heap.size) 3 hb1 (by first | assumption | (simp; done) | (simp; omega) | omega | (have := HS.out; omega)); have HB1 := Lib.hid hb1; clear hb1
        go_wp2_with fail
        refine (CW.out _).mono ?_
        rintro e w3 ⟨rfl, hb⟩
        obtain ⟨hc3, hf3, hz3⟩ := after (B := w.heap.size) 3 hb (by first | assumption | (simp; done) | (simp; omega) | omega | (have := HS.out; omega)); have HB3 := Lib.hid hb; clear hb
        go_wp2_with fail
        refine (CT.out _).mono ?_
        rintro e w4 ⟨rfl, hb⟩
        obtain ⟨hc4, hf4, hz4⟩ := after (B := w.heap.size) 3 hb (by first | assumption | (simp; done) | (simp; omega) | omega | (have := HS.out; omega)); have HB4 := Lib.hid hb; clear hb
        go_wp2
        refine bodyPost_ret (v := _) (by first | (simp [results, Tryd.results26, go_sem]; done) | simp [results, Tryd.results26, go_sem, *]) rfl ⟨rfl, by (repeat' first | exact Below.refl _ _ | assumption | (refine Below.andThen ?_ HB4.out) | (exact HB4.out.size) | (refine Below.andThen ?_ HB3.out) | (exact HB3.out.size) | (refine Below.andThen ?_ HB1.out) | (exact HB1.out.size) | (refine below_drewN ?_ _) | (refine Below.drew ?_) | (refine Below.alloc ?_ ?_ _) | (refine Below.setCell ?_ ?_ _) | (simp; done) | (simp; omega) | omega)⟩
      · have K1 := Lib.hid (fun w => kindR_any t w)
        have K2 := Lib.hid (fun w => kindR_any u w)
        rw [show resV (convR lo hi u t c e) = .tuple #[.agg #[.int .i64 0, .int .i64 0, .int .i64 0], .int .i64 50] by simp [convR, ht, resV, bad]]
        clear hk hr k
        go_enter Tryd.func26, Tryd.ntmps26
        go_wp2_with fail
        refine wp_region_kin (by kernel_rfl) (by kernel_rfl) (w.heap.size) 3 (by first | assumption | (simp; done) | (simp; omega) | omega | (have := HS.out; omega)) (fun hk => ?_)
        repeat (go_big_quiet_step (first | (go_at_call 58; exact Calls.kin (G.out _)) | (go_at_call 28; exact Calls.kin (GR.out _)) | (go_at_call 30; first | (with_reducible exact Calls.kin_same (K1.out _)) | (with_reducible exact Calls.kin_same (K2.out _)))))
        refine wpQuiet_nil ?_
        clear hk
        intro W1 hb1
        obtain ⟨hc1, hf1, hz1⟩ := after (B := w.heap.size) 3 hb1 (by first | assumption | (simp; done) | (simp; omega) | omega | (have := HS.out; omega)); have HB1 := Lib.hid hb1; clear hb1
        go_wp2
        refine bodyPost_ret (v := _) (by first | (simp [results, Tryd.results26, go_sem]; done) | simp [results, Tryd.results26, go_sem, *]) rfl ⟨rfl, by (repeat' first | exact Below.refl _ _ | assumption | (refine Below.andThen ?_ HB1.out) | (exact HB1.out.size) | (refine below_drewN ?_ _) | (refine Below.drew ?_) | (refine Below.alloc ?_ ?_ _) | (refine Below.setCell ?_ ?_ _) | (simp; done) | (simp; omega) | omega)⟩

/-- the least multiple of s that is not below h -/
theorem up_math {h s : Int} (hs : 1 ≤ s) (_ : 0 ≤ h) : h ≤ (h + s - 1) / s * s ∧ (h + s - 1) / s * s ≤ h + s - 1 ∧ ∀ x, h ≤ x → x ≤ (h + s - 1) / s * s → x % s = 0 → x = (h + s - 1) / s * s := by
  have h1 := Int.mul_ediv_add_emod (h + s - 1) s
  have h2 := Int.emod_nonneg (h + s - 1) (show s ≠ 0 by omega)
  have h3 := Int.emod_lt_of_pos (h + s - 1) (show 0 < s by omega)
  rw [Int.mul_comm] at h1
  refine ⟨by omega, by omega, fun x hx hx' hm => ?_⟩
  have g1 := Int.mul_ediv_add_emod x s
  rw [hm, Int.mul_comm] at g1
  have g2 : (x / s) * s = x := by omega
  have g3 : (h + s - 1) / s * s - x / s * s < s := by omega
  have g4 : ((h + s - 1) / s - x / s) * s < 1 * s := by rw [Int.sub_mul]; omega
  have g5 : (h + s - 1) / s - x / s < 1 := Int.lt_of_mul_lt_mul_right g4 (by omega)
  have g6 : x / s * s ≤ (h + s - 1) / s * s := by omega
  have g7 : x / s ≤ (h + s - 1) / s := Int.le_of_mul_le_mul_right g6 (by omega)
  have g8 : (h + s - 1) / s = x / s := by omega
  rw [g8]
  exact g2.symm
theorem down_math {l s : Int} (_ : 1 ≤ s) (_ : 0 ≤ l) : l - l % s = l / s * s := by
  have h1 := Int.mul_ediv_add_emod l s
  rw [Int.mul_comm] at h1
  omega
theorem step_vals {s : Int} (h : stepB s = true) : s = 1 ∨ s = 10 ∨ s = 100 ∨ s = 1000 ∨ s = 10000 := by
  simp [stepB] at h
  omega

set_option maxRecDepth 100000 in
set_option maxHeartbeats 2000000 in
theorem refCoarse_any (lo hi u s : Int) (w : World) :
    Calls Tryd.prog 33 #[.agg #[.int .i64 lo, .int .i64 hi, .int .i64 u], .int .i64 s] w fun r w' => r = .returned (resV (coarseR lo hi u s)) ∧ Below w.heap.size w w' := by
  cases hk : knownB lo hi u
  · have G := Lib.hid (fun w => lit_b hk (givenR_any lo hi u w))
    rw [show resV (coarseR lo hi u s) = .tuple #[.agg #[.int .i64 0, .int .i64 0, .int .i64 0], .int .i64 50] by simp [coarseR, hk, resV, bad]]
    clear hk
    go_enter Tryd.func33, Tryd.ntmps33
    go_wp2_with fail
    refine (G.out _).mono ?_
    rintro e w1 ⟨rfl, hb⟩
    obtain ⟨hc1, hf1, hz1⟩ := after (B := w.heap.size) 2 hb (by first | assumption | (simp; done) | (simp; omega) | omega | (have := HS.out; omega)); have HB1 := Lib.hid hb; clear hb
    go_wp2
    refine bodyPost_ret (v := _) (by first | (simp [results, Tryd.results33, go_sem]; done) | simp [results, Tryd.results33, go_sem, *]) rfl ⟨rfl, by (repeat' first | exact Below.refl _ _ | assumption | (refine Below.andThen ?_ HB1.out) | (exact HB1.out.size) | (refine below_drewN ?_ _) | (refine Below.drew ?_) | (refine Below.alloc ?_ ?_ _) | (refine Below.setCell ?_ ?_ _) | (simp; done) | (simp; omega) | omega)⟩
  · have G := Lib.hid (fun w => lit_b hk (givenR_any lo hi u w))
    have k := (knownB_iff _ _ _).1 hk
    cases hs : stepB s
    · rw [show resV (coarseR lo hi u s) = .tuple #[.agg #[.int .i64 0, .int .i64 0, .int .i64 0], .int .i64 50] by simp [coarseR, hs, resV, bad]]
      have key : s ≠ 1 ∧ s ≠ 10 ∧ s ≠ 100 ∧ s ≠ 1000 ∧ s ≠ 10000 := by
        simp [stepB] at hs
        omega
      obtain ⟨k1, k2, k3, k4, k5⟩ := key
      have q1 : (s != 1) = true := bne_iff_ne.2 k1
      have q2 : (s != 10) = true := bne_iff_ne.2 k2
      have q3 : (s != 100) = true := bne_iff_ne.2 k3
      have q4 : (s != 1000) = true := bne_iff_ne.2 k4
      have q5 : (s != 10000) = true := bne_iff_ne.2 k5
      clear hk hs k
      go_enter Tryd.func33, Tryd.ntmps33
      go_wp2_with fail
      refine (G.out _).mono ?_
      rintro e w1 ⟨rfl, hb⟩
      obtain ⟨hc1, hf1, hz1⟩ := after (B := w.heap.size) 2 hb (by first | assumption | (simp; done) | (simp; omega) | omega | (have := HS.out; omega)); have HB1 := Lib.hid hb; clear hb
      go_wp2
      refine bodyPost_ret (v := _) (by first | (simp [results, Tryd.results33, go_sem]; done) | simp [results, Tryd.results33, go_sem, *]) rfl ⟨rfl, by (repeat' first | exact Below.refl _ _ | assumption | (refine Below.andThen ?_ HB1.out) | (exact HB1.out.size) | (refine below_drewN ?_ _) | (refine Below.drew ?_) | (refine Below.alloc ?_ ?_ _) | (refine Below.setCell ?_ ?_ _) | (simp; done) | (simp; omega) | omega)⟩
    · obtain ⟨k0, k1, k2, k3, k4⟩ := k
      have hp : 1 ≤ s ∧ s ≤ 10000 := by rcases step_vals hs with rfl | rfl | rfl | rfl | rfl <;> omega
      have key : s = 1 ∨ (s ≠ 1 ∧ s = 10) ∨ (s ≠ 1 ∧ s ≠ 10 ∧ s = 100) ∨ (s ≠ 1 ∧ s ≠ 10 ∧ s ≠ 100 ∧ s = 1000) ∨ (s ≠ 1 ∧ s ≠ 10 ∧ s ≠ 100 ∧ s ≠ 1000 ∧ s = 10000) := by
        have := step_vals hs
        omega
      rw [show coarseR lo hi u s = checkR (lo / s * s) ((hi + s - 1) / s * s) u by simp [coarseR, hk, hs], checkR_known k0]
      obtain ⟨m0, m1, m2⟩ := up_math hp.1 (show 0 ≤ hi by omega)
      have m3 := Int.mul_emod_left ((hi + s - 1) / s) s
      have eL : lo - lo.tmod s = lo / s * s := by rw [Int.tmod_eq_emod_of_nonneg k2]; exact down_math hp.1 k2
      have hL0 : 0 ≤ lo / s * s := Int.mul_nonneg (Int.ediv_nonneg k2 (by omega)) (by omega)
      have hL1 : lo / s * s ≤ lo := by rw [← eL]; have := Int.tmod_nonneg s k2; omega
      generalize (hi + s - 1) / s * s = H at *
      generalize lo / s * s = L at *
      have hT : ∀ x : Int, 0 ≤ x → x.tmod s = x % s := fun x hx => Int.tmod_eq_emod_of_nonneg hx
      have M := Lib.hid (And.intro m2 (And.intro m3 hT))
      have EL := Lib.hid eL
      have GK := Lib.hid (fun w => givenR_any L H u w)
      obtain ⟨V, eV⟩ : ∃ V, V = resV (if knownB L H u = true then ⟨L, H, u, 0⟩ else bad) := ⟨_, rfl⟩
      rw [← eV]
      have EV := Lib.hid eV
      clear eV
      have B := Lib.hid (And.intro hL0 (And.intro hL1 (And.intro k2 (And.intro k3 k4))))
      have HI := Lib.hid (And.intro m0 m1)
      have tm := Int.tmod_nonneg s k2
      have hs0 : ¬ s = 0 := by omega
      have HS := Lib.hid hp
      have KEY := Lib.hid key
      obtain ⟨W0, eW⟩ : ∃ W0, W0 = (w.alloc (.cells #[.int .i64 lo, .int .i64 hi, .int .i64 u] 23)).alloc (.cells #[.int .i64 0, .int .i64 0, .int .i64 0] 23) := ⟨_, rfl⟩
      have RA := Lib.hid (show Row W0 w.heap.size 23 [.int .i64 lo, .int .i64 hi, .int .i64 u] by rw [eW]; exact (Row.new w _ _).alloc _)
      have RZ := Lib.hid (show Row W0 (w.heap.size + 1) 23 [.int .i64 0, .int .i64 0, .int .i64 0] by
        have := Row.new (w.alloc (.cells #[.int .i64 lo, .int .i64 hi, .int .i64 u] 23)) 23 [.int .i64 0, .int .i64 0, .int .i64 0]
        rw [World.size_alloc] at this
        rw [eW]
        exact this)
      have BW := Lib.hid (show Below w.heap.size w W0 by rw [eW]; (repeat' first | exact Below.refl _ _ | assumption | (refine below_drewN ?_ _) | (refine Below.drew ?_) | (refine Below.alloc ?_ ?_ _) | (refine Below.setCell ?_ ?_ _) | (simp; done) | (simp; omega) | omega))
      have a0 := RA.out.cell 0
      have a1 := RA.out.cell 1
      have a2 := RA.out.cell 2
      simp only [List.getElem?_cons_zero, List.getElem?_cons_succ] at a0 a1 a2
      clear m2 m3 hT hk hs m0 m1 hL0 hL1 k0 k1 hp key eL
      go_enter Tryd.func33, Tryd.ntmps33
      go_upto_region 1 with (fail)
      rw [← eW]
      clear eW
      go_cut [29] (fun v wx => v = .bool false ∧ Below W0.heap.size W0 wx)
      case first =>
        go_wp2_with fail
        refine (G.out _).mono ?_
        rintro e w1 ⟨rfl, hb⟩
        have HB := Lib.hid hb
        clear hb
        rcases KEY.out with rfl | ⟨e1, rfl⟩ | ⟨e1, e2, rfl⟩ | ⟨e1, e2, e3, rfl⟩ | ⟨e1, e2, e3, e4, rfl⟩
        all_goals
          go_wp2_with fail
          go_meet
          exact ⟨rfl, HB.out⟩
      obtain ⟨rfl, hb⟩ := hcut
      rename World => w1
      replace RA := Lib.hid (RA.out.next hb)
      replace RZ := Lib.hid (RZ.out.next hb)
      replace BW := Lib.hid (Below.andThen BW.out hb)
      have hz : w.heap.size + 2 ≤ w1.heap.size := RZ.out.lt
      clear hb a0 a1 a2 KEY
      have a0 := RA.out.cell 0
      have a1 := RA.out.cell 1
      have a2 := RA.out.cell 2
      simp only [List.getElem?_cons_zero, List.getElem?_cons_succ] at a0 a1 a2
      go_wp2_with fail
      refine wp_region_float 12 13 _ (.cells #[.int .i64 0, .int .i64 0, .int .i64 0] 23) (by kernel_rfl) (by kernel_rfl) rfl rfl (fun ρ w1 => by go_simp) (w.heap.size) 2 (by first | assumption | (simp; done) | (simp; omega) | omega | (have := HS.out; omega)) (fun WW hk hWW => ?_)
      simp only [List.take_succ_cons, List.take_zero, List.drop_succ_cons, List.drop_zero, List.cons_append, List.nil_append]
      repeat (go_big_quiet_step (fail))
      refine wpQuiet_nil ?_
      clear hk hWW
      intro W3 b3 hb3 hl3 ho3
      obtain ⟨oc3, of3⟩ := block_cells ho3; have HO3 := Lib.hid ho3; clear ho3
      simp only [Act.put, List.setIfInBounds_toArray, List.set_cons_zero, List.set_cons_succ]
      obtain ⟨hd3, hg3, hy3⟩ := after (B := w.heap.size) 0 hb3 (by first | assumption | (simp; done) | (simp; omega) | omega | (have := HS.out; omega)); obtain ⟨hc3, hf3, hz3⟩ := after (B := w.heap.size) 2 hb3 (by first | assumption | (simp; done) | (simp; omega) | omega | (have := HS.out; omega)); have HB3 := Lib.hid hb3; clear hb3
      go_wp2_with fail
      have ew : wrap64 (lo - lo % s) = L := by
        have e1 := EL.out
        rw [Int.tmod_eq_emod_of_nonneg B.out.2.2.1] at e1
        rw [e1]
        unfold wrap64
        have := B.out
        omega
      rw [ew]
      have R3 := Lib.hid (show Row (((W3.setCell ⟨b3, 0, none⟩ (.int .i64 L)).setCell ⟨b3, 1, none⟩ (.int .i64 hi)).setCell ⟨b3, 2, none⟩ (.int .i64 u)) b3 23 [.int .i64 L, .int .i64 hi, .int .i64 u] from
        ((Row.set (show Row W3 b3 23 [.int .i64 0, .int .i64 0, .int .i64 0] from HO3.out) 0 _).set 1 _).set 2 _)
      have BB := Lib.hid (show Below w.heap.size w (((W3.setCell ⟨b3, 0, none⟩ (.int .i64 L)).setCell ⟨b3, 1, none⟩ (.int .i64 hi)).setCell ⟨b3, 2, none⟩ (.int .i64 u)) from
        have h0 : w.heap.size ≤ b3 := by omega
        (((Below.andThen BW.out HB3.out).setCell h0 _).setCell h0 _).setCell h0 _)
      have RQ := Lib.hid (show Row (((W3.setCell ⟨b3, 0, none⟩ (.int .i64 L)).setCell ⟨b3, 1, none⟩ (.int .i64 hi)).setCell ⟨b3, 2, none⟩ (.int .i64 u)) (w.heap.size + 1) 23 [.int .i64 0, .int .i64 0, .int .i64 0] from
        have h0 : w.heap.size + 1 ≠ b3 := by omega
        (((RZ.out.next HB3.out).other h0 _ _).other h0 _ _).other h0 _ _)
      have hb3 : w.heap.size + 2 ≤ b3 := by omega
      clear oc3 of3 HO3 hd3 hg3 hy3 hc3 hf3 hz3 HB3 ew a0 a1 a2 RA RZ BW hz
      generalize (((W3.setCell ⟨b3, 0, none⟩ (.int .i64 L)).setCell ⟨b3, 1, none⟩ (.int .i64 hi)).setCell ⟨b3, 2, none⟩ (.int .i64 u)) = W4 at *
      go_loopw [43] (fun _ wr => ∃ x : Int, hi ≤ x ∧ x ≤ H ∧ Row wr b3 23 [.int .i64 L, .int .i64 x, .int .i64 u] ∧ Row wr (w.heap.size + 1) 23 [.int .i64 0, .int .i64 0, .int .i64 0] ∧ Below w.heap.size w wr) (fun _ wr => match wr.cell? ⟨b3, 1, none⟩ with | some v => (H - intOf v).toNat | none => 0)
      case atStart => exact ⟨hi, Int.le_refl _, HI.out.1, R3.out, RQ.out, BB.out⟩
      case round =>
        obtain ⟨x, hx, hxH, hR, hZ, hB⟩ := hrel
        clear R3 RQ BB
        have RO := Lib.hid hR
        have RZ := Lib.hid hZ
        have BB := Lib.hid hB
        have c0 := hR.cell 0
        have c1 := hR.cell 1
        have c2 := hR.cell 2
        have z0 := hZ.cell 0
        have z1 := hZ.cell 1
        have z2 := hZ.cell 2
        simp only [List.getElem?_cons_zero, List.getElem?_cons_succ] at c0 c1 c2 z0 z1 z2
        have f1 := hR.frozen 1
        have x0 : 0 ≤ x := by have := B.out; omega
        have hm : x.tmod s = x % s := Int.tmod_eq_emod_of_nonneg x0
        clear hR hZ hB
        by_cases hxm : x % s = 0
        · obtain rfl : x = H := M.out.1 x hx hxH hxm
          have l3 := RO.out.lt
          cases hk2 : knownB L x u
          · rw [hk2] at GK
            have HK2 := Lib.hid hk2
            clear hk2
            go_wp2_with fail
            refine (GK.out _).mono ?_
            rintro e w5 ⟨rfl, hb⟩
            have Z5 := RZ.out.next hb
            have g0 := Z5.frozen 0
            have g1 := Z5.frozen 1
            have g2 := Z5.frozen 2
            have y0 := Z5.cell 0
            have y1 := Z5.cell 1
            have y2 := Z5.cell 2
            simp only [List.getElem?_cons_zero, List.getElem?_cons_succ] at y0 y1 y2
            have HB5 := Lib.hid (Below.andThen BB.out hb)
            clear hb Z5
            go_wp2
            refine bodyPost_ret (v := (.tuple #[.agg #[.int .i64 0, .int .i64 0, .int .i64 0], .int .i64 50])) (by first | (simp [results, Tryd.results33, go_sem]; done) | simp [results, Tryd.results33, go_sem, *]) rfl ⟨by rw [EV.out, HK2.out]; rfl, by (repeat' first | exact Below.refl _ _ | assumption | (refine Below.andThen ?_ HB5.out) | (exact HB5.out.size) | (refine below_drewN ?_ _) | (refine Below.drew ?_) | (refine Below.alloc ?_ ?_ _) | (refine Below.setCell ?_ ?_ _) | (simp; done) | (simp; omega) | omega)⟩
          · rw [hk2] at GK
            have HK2 := Lib.hid hk2
            clear hk2
            go_wp2_with fail
            refine (GK.out _).mono ?_
            rintro e w5 ⟨rfl, hb⟩
            have Z5 := RZ.out.next hb
            have O5 := RO.out.next hb
            have g0 := Z5.frozen 0
            have g1 := Z5.frozen 1
            have g2 := Z5.frozen 2
            have y0 := Z5.cell 0
            have y1 := Z5.cell 1
            have y2 := Z5.cell 2
            have o0 := O5.cell 0
            have o1 := O5.cell 1
            have o2 := O5.cell 2
            simp only [List.getElem?_cons_zero, List.getElem?_cons_succ] at y0 y1 y2 o0 o1 o2
            have HB5 := Lib.hid (Below.andThen BB.out hb)
            clear hb Z5 O5
            go_wp2
            refine bodyPost_ret (v := (.tuple #[.agg #[.int .i64 L, .int .i64 x, .int .i64 u], .int .i64 0])) (by first | (simp [results, Tryd.results33, go_sem]; done) | simp [results, Tryd.results33, go_sem, *]) rfl ⟨by rw [EV.out, HK2.out]; rfl, by (repeat' first | exact Below.refl _ _ | assumption | (refine Below.andThen ?_ HB5.out) | (exact HB5.out.size) | (refine below_drewN ?_ _) | (refine Below.drew ?_) | (refine Below.alloc ?_ ?_ _) | (refine Below.setCell ?_ ?_ _) | (simp; done) | (simp; omega) | omega)⟩
        · have hlt : x < H := by
            rcases (show x = H ∨ x < H by omega) with rfl | h
            · exact absurd M.out.2.1 hxm
            · exact h
          have hne : w.heap.size + 1 ≠ b3 := by omega
          have xb : x ≤ 1100000 := by have := B.out; have := HI.out; have := HS.out; omega
          go_wp2_with fail
          go_roundw
          case rel => exact ⟨x + 1, by omega, by omega, RO.out.set 1 _, RZ.out.other hne _ _, BB.out.setCell (show w.heap.size ≤ b3 by omega) _⟩
          case measure =>
            have m1 : (wr.setCell ⟨b3, 1, none⟩ (.int .i64 (x + 1))).cell? ⟨b3, 1, none⟩ = some (.int .i64 (x + 1)) := (RO.out.set 1 (.int .i64 (x + 1))).cell 1
            simp [c1, m1, intOf]
            omega
end Go.Proofs.YtdldokhiefeloaaDoor
