/- Add, Meet, Coarse, Share, Convert and Contains: what they return. -/
import Derived.Test.YtdldokhiefeloaaDoorUnitD
import Derived.Test.YtdldokhiefeloaaDoorFloat
namespace Go.Proofs.YtdldokhiefeloaaDoor
open Go.RowKit

/-- An amount lies in a block. -/
structure Amt (w : World) (b : Nat) (lo hi u : Int) : Prop where
  c0 : w.cell? ⟨b, 0, none⟩ = some (.int .i64 lo)
  c1 : w.cell? ⟨b, 1, none⟩ = some (.int .i64 hi)
  c2 : w.cell? ⟨b, 2, none⟩ = some (.int .i64 u)
theorem Amt.lt {w : World} {b : Nat} {lo hi u : Int} (h : Amt w b lo hi u) : b < w.heap.size := World.block_lt_of_cell? w _ h.c0
theorem Amt.next {w w1 : World} {b : Nat} {lo hi u : Int} (h : Amt w b lo hi u) (hb : Below w.heap.size w w1) : Amt w1 b lo hi u :=
  ⟨(hb.cell (p := ⟨b, 0, none⟩) h.lt).trans h.c0, (hb.cell (p := ⟨b, 1, none⟩) h.lt).trans h.c1, (hb.cell (p := ⟨b, 2, none⟩) h.lt).trans h.c2⟩
/-- A number lies in a block. -/
theorem one_next {w w1 : World} {b : Nat} {v : Value} (h : w.cell? ⟨b, 0, none⟩ = some v) (hb : Below w.heap.size w w1) : w1.cell? ⟨b, 0, none⟩ = some v :=
  (hb.cell (p := ⟨b, 0, none⟩) (World.block_lt_of_cell? w _ h)).trans h

set_option maxHeartbeats 400000 in
theorem addC (ba bb : Nat) (a b c x y z : Int) (w : World) (A : Amt w ba a b c) (B : Amt w bb x y z) (h1 : 0 ≤ a) (h2 : a ≤ 999999) (h3 : 0 ≤ b) (h4 : b ≤ 999999) (h5 : 0 ≤ x) (h6 : x ≤ 999999) (h7 : 0 ≤ y) (h8 : y ≤ 999999) :
    Makes 57 #[.pointer (some ⟨ba, 0, none⟩), .pointer (some ⟨bb, 0, none⟩)] (a + x) (b + y) c w := by
  intro w1 hb
  obtain ⟨a0, a1, a2⟩ := A.next hb
  obtain ⟨b0, b1, b2⟩ := B.next hb
  have la : ba < w1.heap.size := World.block_lt_of_cell? w1 _ a0
  have lb : bb < w1.heap.size := World.block_lt_of_cell? w1 _ b0
  clear hb A B
  go_enter Tryd.func57, Tryd.ntmps57
  go_wp2
  refine bodyPost_ret (v := _) (by first | (simp [results, Tryd.results57, go_sem]; done) | simp [results, Tryd.results57, go_sem, *]) rfl ⟨rfl, by (repeat' first | exact Below.refl _ _ | assumption | (refine below_drewN ?_ _) | (refine Below.drew ?_) | (refine Below.alloc ?_ ?_ _) | (refine Below.setCell ?_ ?_ _) | (simp; done) | (simp; omega) | omega)⟩

set_option maxHeartbeats 400000 in
theorem meetC (ba bb : Nat) (a b c x y z : Int) (w : World) (A : Amt w ba a b c) (B : Amt w bb x y z) :
    Makes 59 #[.pointer (some ⟨ba, 0, none⟩), .pointer (some ⟨bb, 0, none⟩)] (max a x) (min b y) c w := by
  intro w1 hb
  obtain ⟨a0, a1, a2⟩ := A.next hb
  obtain ⟨b0, b1, b2⟩ := B.next hb
  have la : ba < w1.heap.size := World.block_lt_of_cell? w1 _ a0
  have lb : bb < w1.heap.size := World.block_lt_of_cell? w1 _ b0
  clear hb A B
  go_enter Tryd.func59, Tryd.ntmps59
  go_wp2
  all_goals exact bodyPost_ret (v := .agg #[.int .i64 (max a x), .int .i64 (min b y), .int .i64 c]) (by simp [results, Tryd.results59, go_sem]; omega) rfl ⟨rfl, by (repeat' first | exact Below.refl _ _ | assumption | (refine below_drewN ?_ _) | (refine Below.drew ?_) | (refine Below.alloc ?_ ?_ _) | (refine Below.setCell ?_ ?_ _) | (simp; done) | (simp; omega) | omega)⟩

set_option maxHeartbeats 400000 in
theorem coarseC (ba bs : Nat) (lo hi u s : Int) (w : World) (A : Amt w ba lo hi u) (S : w.cell? ⟨bs, 0, none⟩ = some (.int .i64 s)) (h0 : 0 ≤ lo) (h1 : lo ≤ 999999) (h2 : 0 ≤ hi) (h3 : hi ≤ 999999) (h4 : 1 ≤ s) (h5 : s ≤ 10000) :
    Makes 67 #[.pointer (some ⟨ba, 0, none⟩), .pointer (some ⟨bs, 0, none⟩)] (lo * 1 / s * s) ((hi * 1 + s - 1) / s * s) u w := by
  intro w1 hb
  obtain ⟨a0, a1, a2⟩ := A.next hb
  have s0 := one_next S hb
  have e0 : 0 ≤ lo * 1 / s * s := Int.mul_nonneg (Int.ediv_nonneg (by omega) (by omega)) (by omega)
  have e1 : lo * 1 / s * s ≤ lo * 1 := Int.ediv_mul_le _ (by omega)
  have f0 : 0 ≤ (hi * 1 + s - 1) / s * s := Int.mul_nonneg (Int.ediv_nonneg (by omega) (by omega)) (by omega)
  have f1 : (hi * 1 + s - 1) / s * s ≤ hi * 1 + s - 1 := Int.ediv_mul_le _ (by omega)
  have la : ba < w1.heap.size := World.block_lt_of_cell? w1 _ a0
  have ls : bs < w1.heap.size := World.block_lt_of_cell? w1 _ s0
  have C := fun w => apply_any lo hi u 1 s s w (by omega) (by omega) (by omega) (by omega) h4 (by omega) e0 (by omega) f0 (by omega)
  have HC := Lib.hid C
  clear hb A S e0 e1 f0 f1 C
  go_enter Tryd.func67, Tryd.ntmps67
  go_wp2
  have hka : ∀ k : Kin (w1.alloc (.cells #[.int .i64 0, .int .i64 0, .int .i64 0] 23)), ∀ o, k.it.cell? ⟨ba, o, none⟩ = w1.cell? ⟨ba, o, none⟩ := fun k o => (k.below.cell (p := ⟨ba, o, none⟩) (by simp; omega)).trans (Below.alloc (Below.refl w1.heap.size w1) (Nat.le_refl _) _ |>.cell (p := ⟨ba, o, none⟩) la)
  have hks : ∀ k : Kin (w1.alloc (.cells #[.int .i64 0, .int .i64 0, .int .i64 0] 23)), ∀ o, k.it.cell? ⟨bs, o, none⟩ = w1.cell? ⟨bs, o, none⟩ := fun k o => (k.below.cell (p := ⟨bs, o, none⟩) (by simp; omega)).trans (Below.alloc (Below.refl w1.heap.size w1) (Nat.le_refl _) _ |>.cell (p := ⟨bs, o, none⟩) ls)
  refine wp_region_kin_tail 5 (by kernel_rfl) (by kernel_rfl) (w1.heap.size) 1 (by first | assumption | (simp; done) | (simp; omega) | omega | (have := HS.out; omega)) (fun hk => ?_)
  simp only [List.take_succ_cons, List.take_zero, List.drop_succ_cons, List.drop_zero]
  repeat (go_big_quiet_step (first | (go_at_call 63; exact Calls.kin (outward_any _)) | (go_at_call 64; exact Calls.kin (HC.out _))))
  refine wpQuiet_nil ?_
  clear hk
  intro W2 hb2
  obtain ⟨hc2, hf2, hz2⟩ := after (B := w1.heap.size) 1 hb2 (by first | assumption | (simp; done) | (simp; omega) | omega | (have := HS.out; omega)); have HB2 := Lib.hid hb2; clear hb2
  clear hka hks
  go_wp2
  refine bodyPost_ret (v := _) (by first | (simp [results, Tryd.results67, go_sem]; done) | simp [results, Tryd.results67, go_sem, *]) rfl ⟨rfl, by (repeat' first | exact Below.refl _ _ | assumption | (refine Below.andThen ?_ HB2.out) | (exact HB2.out.size) | (refine below_drewN ?_ _) | (refine Below.drew ?_) | (refine Below.alloc ?_ ?_ _) | (refine Below.setCell ?_ ?_ _) | (simp; done) | (simp; omega) | omega)⟩

set_option maxHeartbeats 400000 in
theorem shareC (ba bn bd : Nat) (lo hi u n d : Int) (w : World) (A : Amt w ba lo hi u) (N : w.cell? ⟨bn, 0, none⟩ = some (.int .i64 n)) (D : w.cell? ⟨bd, 0, none⟩ = some (.int .i64 d))
    (h0 : 0 ≤ lo) (h1 : lo ≤ 999999) (h2 : 0 ≤ hi) (h3 : hi ≤ 999999) (h4 : 0 ≤ n) (h5 : n ≤ 1000000) (h6 : 1 ≤ d) (h7 : d ≤ 1000000) :
    Makes 68 #[.pointer (some ⟨ba, 0, none⟩), .pointer (some ⟨bn, 0, none⟩), .pointer (some ⟨bd, 0, none⟩)] (lo * n / d * 1) ((hi * n + d - 1) / d * 1) u w := by
  intro w1 hb
  obtain ⟨a0, a1, a2⟩ := A.next hb
  have n0 := one_next N hb
  have d0 := one_next D hb
  have e0 : 0 ≤ lo * n := Int.mul_nonneg h0 h4
  have e1 : lo * n ≤ 999999 * 1000000 := Int.mul_le_mul h1 h5 h4 (by omega)
  have f0 : 0 ≤ hi * n := Int.mul_nonneg h2 h4
  have f1 : hi * n ≤ 999999 * 1000000 := Int.mul_le_mul h3 h5 h4 (by omega)
  have g0 : 0 ≤ lo * n / d := Int.ediv_nonneg e0 (by omega)
  have g1 : lo * n / d ≤ lo * n := Int.ediv_le_self _ e0
  have i0 : 0 ≤ (hi * n + d - 1) / d := Int.ediv_nonneg (by omega) (by omega)
  have i1 : (hi * n + d - 1) / d ≤ hi * n + d - 1 := Int.ediv_le_self _ (by omega)
  have la : ba < w1.heap.size := World.block_lt_of_cell? w1 _ a0
  have ln : bn < w1.heap.size := World.block_lt_of_cell? w1 _ n0
  have ld : bd < w1.heap.size := World.block_lt_of_cell? w1 _ d0
  have C := fun w => apply_any lo hi u n d 1 w e0 (by omega) f0 (by omega) h6 (by omega) (by omega) (by omega) (by omega) (by omega)
  have HC := Lib.hid C
  clear hb A N D e0 e1 f0 f1 g0 g1 i0 i1 C
  go_enter Tryd.func68, Tryd.ntmps68
  go_wp2
  have hka : ∀ k : Kin (w1.alloc (.cells #[.int .i64 0, .int .i64 0, .int .i64 0] 23)), ∀ b o, b < w1.heap.size → k.it.cell? ⟨b, o, none⟩ = w1.cell? ⟨b, o, none⟩ := fun k b o h => (k.below.cell (p := ⟨b, o, none⟩) (by simp; omega)).trans (Below.alloc (Below.refl w1.heap.size w1) (Nat.le_refl _) _ |>.cell (p := ⟨b, o, none⟩) h)
  refine wp_region_kin_tail 5 (by kernel_rfl) (by kernel_rfl) (w1.heap.size) 1 (by first | assumption | (simp; done) | (simp; omega) | omega | (have := HS.out; omega)) (fun hk => ?_)
  simp only [List.take_succ_cons, List.take_zero, List.drop_succ_cons, List.drop_zero]
  repeat (go_big_quiet_step (first | (go_at_call 63; exact Calls.kin (outward_any _)) | (go_at_call 64; exact Calls.kin (HC.out _))))
  refine wpQuiet_nil ?_
  clear hk
  intro W2 hb2
  obtain ⟨hc2, hf2, hz2⟩ := after (B := w1.heap.size) 1 hb2 (by first | assumption | (simp; done) | (simp; omega) | omega | (have := HS.out; omega)); have HB2 := Lib.hid hb2; clear hb2
  clear hka
  go_wp2
  refine bodyPost_ret (v := _) (by first | (simp [results, Tryd.results68, go_sem]; done) | simp [results, Tryd.results68, go_sem, *]) rfl ⟨rfl, by (repeat' first | exact Below.refl _ _ | assumption | (refine Below.andThen ?_ HB2.out) | (exact HB2.out.size) | (refine below_drewN ?_ _) | (refine Below.drew ?_) | (refine Below.alloc ?_ ?_ _) | (refine Below.setCell ?_ ?_ _) | (simp; done) | (simp; omega) | omega)⟩

set_option maxHeartbeats 400000 in
theorem convC_same (ba bt br : Nat) (lo hi u : Int) (w : World) (A : Amt w ba lo hi u) (N : w.cell? ⟨bt, 0, none⟩ = some (.int .i64 u)) :
    Makes 61 #[.pointer (some ⟨ba, 0, none⟩), .pointer (some ⟨bt, 0, none⟩), .pointer (some ⟨br, 0, none⟩)] lo hi u w := by
  intro w1 hb
  obtain ⟨a0, a1, a2⟩ := A.next hb
  have n0 := one_next N hb
  have la : ba < w1.heap.size := World.block_lt_of_cell? w1 _ a0
  have ln : bt < w1.heap.size := World.block_lt_of_cell? w1 _ n0
  clear hb A N
  go_enter Tryd.func61, Tryd.ntmps61
  go_wp2
  refine bodyPost_ret (v := _) (by first | (simp [results, Tryd.results61, go_sem]; done) | simp [results, Tryd.results61, go_sem, *]) rfl ⟨rfl, by (repeat' first | exact Below.refl _ _ | assumption | (refine below_drewN ?_ _) | (refine Below.drew ?_) | (refine Below.alloc ?_ ?_ _) | (refine Below.setCell ?_ ?_ _) | (simp; done) | (simp; omega) | omega)⟩

set_option maxHeartbeats 1000000 in
theorem convC' (ba bt br : Nat) (lo hi u to c e nu du nt dt L H : Int) (w : World) (T : Tab w) (A : Amt w ba lo hi u) (N : w.cell? ⟨bt, 0, none⟩ = some (.int .i64 to)) (R0 : w.cell? ⟨br, 0, none⟩ = some (.int .i64 c)) (R1 : w.cell? ⟨br, 1, none⟩ = some (.int .i64 e))
    (hne : u ≠ to) (hW1 : ∀ w, Tab w → Calls Tryd.prog 62 #[.int .i64 u, .agg #[.int .i64 c, .int .i64 e]] w fun r w' => r = .returned (.tuple #[.int .i64 nu, .int .i64 du]) ∧ Below w.heap.size w w')
    (hW2 : ∀ w, Tab w → Calls Tryd.prog 62 #[.int .i64 to, .agg #[.int .i64 c, .int .i64 e]] w fun r w' => r = .returned (.tuple #[.int .i64 nt, .int .i64 dt]) ∧ Below w.heap.size w w')
    (n0 : 0 ≤ nu * dt) (n1 : nu * dt ≤ 100000000) (d0 : 0 ≤ du * nt) (d1 : du * nt ≤ 100000000)
    (hC : ∀ w, Calls Tryd.prog 64 #[.agg #[.func (.func 83) #[] #[], .func (.func 84) #[] #[]], .agg #[.int .i64 lo, .int .i64 hi, .int .i64 u], .int .i64 (nu * dt), .int .i64 (du * nt), .int .i64 1] w fun r w' =>
      r = .returned (.agg #[.int .i64 L, .int .i64 H, .int .i64 u]) ∧ Below w.heap.size w w') :
    Makes 61 #[.pointer (some ⟨ba, 0, none⟩), .pointer (some ⟨bt, 0, none⟩), .pointer (some ⟨br, 0, none⟩)] L H to w := by
  intro w1 hb
  obtain ⟨a0, a1, a2⟩ := A.next hb
  have t0 := one_next N hb
  have r0 := one_next R0 hb
  have r1 : w1.cell? ⟨br, 1, none⟩ = some (.int .i64 e) := (hb.cell (p := ⟨br, 1, none⟩) (World.block_lt_of_cell? w _ R1)).trans R1
  have la : ba < w1.heap.size := World.block_lt_of_cell? w1 _ a0
  have lt : bt < w1.heap.size := World.block_lt_of_cell? w1 _ t0
  have lr : br < w1.heap.size := World.block_lt_of_cell? w1 _ r0
  have HC := Lib.hid hC
  have HW1 := Lib.hid hW1
  have HW2 := Lib.hid hW2
  have T1 := T.next hb
  have T2 := T1.next ((Below.refl w1.heap.size w1).alloc (Nat.le_refl _) (.cells #[.int .i64 0, .int .i64 0, .int .i64 0] 23))
  clear hb A N R0 R1 hC hW1 hW2 T T1
  go_enter Tryd.func61, Tryd.ntmps61
  go_wp2_with fail
  refine (HW1.out _ T2).mono ?_
  rintro r w2 ⟨rfl, hb⟩
  have T3 := T2.next hb
  obtain ⟨hd2, hg2, hy2⟩ := after (B := w1.heap.size) 0 hb (by first | assumption | (simp; done) | (simp; omega) | omega | (have := HS.out; omega)); obtain ⟨hc2, hf2, hz2⟩ := after (B := w1.heap.size) 1 hb (by first | assumption | (simp; done) | (simp; omega) | omega | (have := HS.out; omega)); have HB2 := Lib.hid hb; clear hb
  go_wp2_with fail
  refine (HW2.out _ T3).mono ?_
  rintro r w3 ⟨rfl, hb⟩
  obtain ⟨hd3, hg3, hy3⟩ := after (B := w1.heap.size) 0 hb (by first | assumption | (simp; done) | (simp; omega) | omega | (have := HS.out; omega)); obtain ⟨hc3, hf3, hz3⟩ := after (B := w1.heap.size) 1 hb (by first | assumption | (simp; done) | (simp; omega) | omega | (have := HS.out; omega)); have HB3 := Lib.hid hb; clear hb
  clear T2 T3 HW1 HW2
  go_wp2_with fail
  refine wp_region_float 9 10 _ (.cells #[.int .i64 0, .int .i64 0, .int .i64 0] 23) (by kernel_rfl) (by kernel_rfl) rfl rfl (fun ρ w1 => by go_simp) (w1.heap.size) 1 (by first | assumption | (simp; done) | (simp; omega) | omega | (have := HS.out; omega)) (fun WW hk hWW => ?_)
  simp only [List.take_succ_cons, List.take_zero, List.drop_succ_cons, List.drop_zero, List.cons_append, List.nil_append]
  repeat (go_big_quiet_step (first | (go_at_call 63; exact Calls.kin (outward_any _)) | (go_at_call 64; exact Calls.kin (HC.out _))))
  refine wpQuiet_nil ?_
  clear hk hWW
  intro W4 b4 hb4 hl4 ho4
  obtain ⟨oc4, of4⟩ := block_cells ho4; have HO4 := Lib.hid ho4; clear ho4
  simp only [Act.put, List.setIfInBounds_toArray, List.set_cons_zero, List.set_cons_succ]
  obtain ⟨hd4, hg4, hy4⟩ := after (B := w1.heap.size) 0 hb4 (by first | assumption | (simp; done) | (simp; omega) | omega | (have := HS.out; omega)); obtain ⟨hc4, hf4, hz4⟩ := after (B := w1.heap.size) 1 hb4 (by first | assumption | (simp; done) | (simp; omega) | omega | (have := HS.out; omega)); have HB4 := Lib.hid hb4; clear hb4
  clear HC n0 n1 d0 d1
  go_upto_region 6 with (fail)
  refine wp_named fun W5 hW5 => ?_
  have n4 : b4 ≠ w1.heap.size := by omega
  have n6 : bt ≠ b4 := by omega
  have n7 : w1.heap.size ≤ b4 := by omega
  have q0 : W5.cell? ⟨b4, 0, none⟩ = some (.int .i64 L) := by rw [hW5]; go_simp
  have q1 : W5.cell? ⟨b4, 1, none⟩ = some (.int .i64 H) := by rw [hW5]; go_simp
  have q2 : W5.cell? ⟨b4, 2, none⟩ = some (.int .i64 u) := by rw [hW5]; go_simp
  have qf : ∀ o, W5.frozen? ⟨b4, o, none⟩ = false := fun o => by rw [hW5]; go_simp
  have q3 : W5.cell? ⟨bt, 0, none⟩ = some (.int .i64 to) := by rw [hW5, cell_far _ _ _ _ n6, cell_far _ _ _ _ n6, cell_far _ _ _ _ n6]; go_simp
  have q4 : ∀ o, o < 3 → W5.cell? ⟨w1.heap.size, o, none⟩ = some (.int .i64 0) := fun o ho => by
    rw [hW5, cell_far _ _ _ _ n4.symm, cell_far _ _ _ _ n4.symm, cell_far _ _ _ _ n4.symm, hc4 _ _ (by omega), hc3 _ _ (by omega), hc2 _ _ (by omega)]
    match o, ho with
    | 0, _ | 1, _ | 2, _ => go_simp
  have qg : ∀ o, W5.frozen? ⟨w1.heap.size, o, none⟩ = false := fun o => by rw [hW5]; go_simp
  have HB5 := Lib.hid (show Below w1.heap.size w1 W5 by rw [hW5]; (repeat' first | exact Below.refl _ _ | assumption | (refine Below.andThen ?_ HB4.out) | (exact HB4.out.size) | (refine Below.andThen ?_ HB3.out) | (exact HB3.out.size) | (refine Below.andThen ?_ HB2.out) | (exact HB2.out.size) | (refine below_drewN ?_ _) | (refine Below.drew ?_) | (refine Below.alloc ?_ ?_ _) | (refine Below.setCell ?_ ?_ _) | (simp; done) | (simp; omega) | omega))
  have r0 := q4 0 (by omega)
  have r1 := q4 1 (by omega)
  have r2 := q4 2 (by omega)
  have N7 := Lib.hid n7
  clear n7 hW5 hc4 hf4 hd4 hg4 hc3 hf3 hd3 hg3 hc2 hf2 hd2 hg2 oc4 of4 hz4 hy4 hl4 hz3 hy3 hz2 hy2 a0 a1 a2 q4
  go_wp2
  have n7 := N7.out
  refine bodyPost_ret (v := _) (by first | (simp [results, Tryd.results61, go_sem]; done) | simp [results, Tryd.results61, go_sem, *]) rfl ⟨rfl, by (repeat' first | exact Below.refl _ _ | assumption | (refine Below.andThen ?_ HB5.out) | (exact HB5.out.size) | (refine below_drewN ?_ _) | (refine Below.drew ?_) | (refine Below.alloc ?_ ?_ _) | (refine Below.setCell ?_ ?_ _) | (simp; done) | (simp; omega) | omega)⟩
end Go.Proofs.YtdldokhiefeloaaDoor
