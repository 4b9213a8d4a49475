/- The functions by which the statements make their inputs. -/
import Derived.Test.YtdldokhiefeloaaDoorUnitS
namespace Go.Proofs.YtdldokhiefeloaaDoor
open Go.RowKit

def mostZ (k : Int) : Int := if k = 0 then 9 else if k = 1 then 100 else if k = 2 then 5000 else 999999
def stepZ (n : Int) : Int := if pickZ n 5 = 0 then 1 else if pickZ n 5 = 1 then 10 else if pickZ n 5 = 2 then 100 else if pickZ n 5 = 3 then 1000 else 10000
def madeA (x0 x2 : Int) : Int := pickZ x0 (mostZ (pickZ x2 4) + 1)
def madeLo (x0 x1 x2 : Int) : Int := min (madeA x0 x2) (madeA x1 x2)
def madeHi (x0 x1 x2 : Int) : Int := max (madeA x0 x2) (madeA x1 x2)
def madeU (x2 : Int) : Int := 1 + pickZ (x2.tdiv 4) 7
theorem mostZ_bd (k : Int) : 0 ≤ mostZ k ∧ mostZ k ≤ 999999 := by unfold mostZ; repeat' split <;> omega
theorem made_bd (x0 x1 x2 : Int) : 0 ≤ madeLo x0 x1 x2 ∧ madeLo x0 x1 x2 ≤ madeHi x0 x1 x2 ∧ madeHi x0 x1 x2 ≤ 999999 ∧ 1 ≤ madeU x2 ∧ madeU x2 ≤ 7 := by
  have h := mostZ_bd (pickZ x2 4)
  have a := pick_bd x0 (mostZ (pickZ x2 4) + 1) (by omega)
  have b := pick_bd x1 (mostZ (pickZ x2 4) + 1) (by omega)
  have c := pick_bd (x2.tdiv 4) 7 (by omega)
  unfold madeLo madeHi madeU madeA
  omega
theorem step_cases (n : Int) : stepZ n = 1 ∨ stepZ n = 10 ∨ stepZ n = 100 ∨ stepZ n = 1000 ∨ stepZ n = 10000 := by
  by_cases h0 : pickZ n 5 = 0 <;> by_cases h1 : pickZ n 5 = 1 <;> by_cases h2 : pickZ n 5 = 2 <;> by_cases h3 : pickZ n 5 = 3 <;> simp [stepZ, *]
theorem step_ok (n : Int) : stepB (stepZ n) = true := by rcases step_cases n with h | h | h | h | h <;> rw [h] <;> rfl

theorem pickR_any (c n : Int) (w : World) (hn : 0 < n) (hc' : -9223372036854775808 ≤ c) (hc : c ≤ 9223372036854775807) :
    Calls Tryd.prog 54 #[.int .i64 c, .int .i64 n] w fun e w' => e = .returned (.int .i64 (pickZ c n)) ∧ w = w' := by
  by_cases h : c < 0
  · have h0 : 0 ≤ -(c + 1) := by omega
    have e : (-(c + 1)).tmod n = pickZ c n := by rw [Int.tmod_eq_emod_of_nonneg h0]; simp [pickZ, h]
    have E := Lib.hid e
    clear e
    go_enter Tryd.func54, Tryd.ntmps54
    go_wp2
    go_ret
    exact ⟨retv (vint (by rw [← E.out, Int.neg_tmod])), rfl⟩
  · have h0 : 0 ≤ c := by omega
    have e : c % n = pickZ c n := by simp [pickZ, h]
    have E := Lib.hid e
    clear e
    go_enter Tryd.func54, Tryd.ntmps54
    go_wp2
    go_ret
    exact ⟨retv (vint E.out), rfl⟩

theorem lit_same {f : FuncId} {args : Array Value} {w : World} {a b : Int} (h : a = b) (hc : Calls Tryd.prog f args w fun r w' => r = .returned (.int .i64 a) ∧ w = w') :
    Calls Tryd.prog f args w fun r w' => r = .returned (.int .i64 b) ∧ w = w' := by
  subst h
  exact hc

theorem step_any (n : Int) (w : World) (hc' : -9223372036854775808 ≤ n) (hc : n ≤ 9223372036854775807) :
    Calls Tryd.prog 31 #[.int .i64 n] w fun e w' => e = .returned (.int .i64 (stepZ n)) ∧ Below w.heap.size w w' := by
  have hb := pick_bd n 5 (by omega)
  have h : pickZ n 5 = 0 ∨ pickZ n 5 = 1 ∨ pickZ n 5 = 2 ∨ pickZ n 5 = 3 ∨ pickZ n 5 = 4 := by omega
  rcases h with h | h | h | h | h
  all_goals
    have e : stepZ n = stepZ n := rfl
    conv at e => rhs; unfold stepZ; rw [h]
    simp at e
    rw [e]
    have H := Lib.hid (fun w => lit_same h (pick_any n 5 w (by omega) hc' hc))
    clear h hb e
    go_enter Tryd.func31, Tryd.ntmps31
    go_wp2_with (go_at_call 24; refine (H.out _).mono ?_; rintro e w1 ⟨rfl, rfl⟩)
    go_ret
    exact ⟨rfl, by (repeat' first | exact Below.refl _ _ | assumption | (refine below_drewN ?_ _) | (refine Below.drew ?_) | (refine Below.alloc ?_ ?_ _) | (refine Below.setCell ?_ ?_ _) | (simp; done) | (simp; omega) | omega)⟩

theorem partner_any (u : Int) (o : Bool) (w : World) (h1 : 1 ≤ u) (h2 : u ≤ 7) :
    Calls Tryd.prog 38 #[.int .i64 u, .bool o] w fun e w' => e = .returned (.int .i64 (if o = false ∨ u = 1 then u else if u % 2 = 0 then u + 1 else u - 1)) ∧ w = w' := by
  cases o <;> by_cases hu : u = 1 <;> by_cases hm : u % 2 = 0
  all_goals
    simp only [hu, hm]
    go_enter Tryd.func38, Tryd.ntmps38
    go_wp2
    all_goals
      go_ret
      first
        | exact ⟨rfl, rfl⟩
        | exact ⟨retv (vint (by first | (simp; done) | (simp; omega) | omega)), rfl⟩

set_option maxHeartbeats 1000000 in
theorem made_any (x0 x1 x2 : Int) (w : World) (h0 : -9223372036854775808 ≤ x0 ∧ x0 ≤ 9223372036854775807) (h1 : -9223372036854775808 ≤ x1 ∧ x1 ≤ 9223372036854775807) (h2 : -9223372036854775808 ≤ x2 ∧ x2 ≤ 9223372036854775807) :
    Calls Tryd.prog 16 #[.agg #[.int .i64 x0, .int .i64 x1, .int .i64 x2]] w fun e w' => e = .returned (.agg #[.int .i64 (madeLo x0 x1 x2), .int .i64 (madeHi x0 x1 x2), .int .i64 (madeU x2)]) ∧ Below w.heap.size w w' := by
  have hb := pick_bd x2 4 (by omega)
  have h : pickZ x2 4 = 0 ∨ pickZ x2 4 = 1 ∨ pickZ x2 4 = 2 ∨ pickZ x2 4 = 3 := by omega
  have hq : -9223372036854775808 ≤ x2.tdiv 4 ∧ x2.tdiv 4 ≤ 9223372036854775807 := by
    rcases Int.le_total 0 x2 with hx | hx
    · rw [Int.tdiv_eq_ediv_of_nonneg hx]; omega
    · have : x2.tdiv 4 = -((-x2) / 4) := by rw [← Int.tdiv_eq_ediv_of_nonneg (by omega), Int.neg_tdiv, Int.neg_neg]
      rw [this]; omega
  have hu := pick_bd (x2.tdiv 4) 7 (by omega)
  rcases h with h | h | h | h
  all_goals
    have ea := show madeA x0 x2 = pickZ x0 (mostZ (pickZ x2 4) + 1) from rfl
    have eb := show madeA x1 x2 = pickZ x1 (mostZ (pickZ x2 4) + 1) from rfl
    rw [h] at ea eb
    simp only [mostZ, if_true, Int.reduceEq, if_false, Int.reduceAdd] at ea eb
    have EA := Lib.hid ea
    have EB := Lib.hid eb
    have ba : 0 ≤ madeA x0 x2 ∧ madeA x0 x2 ≤ 999999 := by rw [ea]; have := pick_bd x0 10 (by omega); have := pick_bd x0 101 (by omega); have := pick_bd x0 5001 (by omega); have := pick_bd x0 1000000 (by omega); omega
    have bb : 0 ≤ madeA x1 x2 ∧ madeA x1 x2 ≤ 999999 := by rw [eb]; have := pick_bd x1 10 (by omega); have := pick_bd x1 101 (by omega); have := pick_bd x1 5001 (by omega); have := pick_bd x1 1000000 (by omega); omega
    have eu := show madeU x2 = 1 + pickZ (x2.tdiv 4) 7 from rfl
    have H1 := Lib.hid (fun w => lit_same h (pickR_any x2 4 w (by omega) h2.1 h2.2))
    have H2 := Lib.hid (fun w => lit_same ea.symm (pickR_any x0 _ w (by omega) h0.1 h0.2))
    have H3 := Lib.hid (fun w => lit_same eb.symm (pickR_any x1 _ w (by omega) h1.1 h1.2))
    have H4 := Lib.hid (fun w => pickR_any (x2.tdiv 4) 7 w (by omega) hq.1 hq.2)
    have EU := Lib.hid eu
    clear h hb ea eb eu h0 h1 h2
    unfold madeLo madeHi
    generalize madeA x0 x2 = p0 at *
    generalize madeA x1 x2 = p1 at *
    go_enter Tryd.func16, Tryd.ntmps16
    go_wp2_with fail
    refine (H1.out _).mono ?_
    rintro e w1 ⟨rfl, rfl⟩
    go_wp2_with fail
    refine (H2.out _).mono ?_
    rintro e w1 ⟨rfl, rfl⟩
    go_wp2_with fail
    refine (H3.out _).mono ?_
    rintro e w1 ⟨rfl, rfl⟩
    go_wp2_with (go_at_call 54; refine (H4.out _).mono ?_; rintro e w1 ⟨rfl, rfl⟩)
    all_goals exact bodyPost_ret (v := .agg #[.int .i64 (min p0 p1), .int .i64 (max p0 p1), .int .i64 (madeU x2)]) (by rw [EU.out]; simp [results, Tryd.results16, go_sem]; try omega) rfl ⟨rfl, by (repeat' first | exact Below.refl _ _ | assumption | (refine below_drewN ?_ _) | (refine Below.drew ?_) | (refine Below.alloc ?_ ?_ _) | (refine Below.setCell ?_ ?_ _) | (simp; done) | (simp; omega) | omega)⟩

def rateZ (x : Int) : Int := 1 + pickZ x 100000
theorem rate_bd (x : Int) : 1 ≤ rateZ x ∧ rateZ x ≤ 100000 := by have := pick_bd x 100000 (by omega); unfold rateZ; omega
theorem rates_ok (x y : Int) : ratesB (rateZ x) (rateZ y) = true := by rw [ratesB_iff]; have := rate_bd x; have := rate_bd y; omega

set_option maxHeartbeats 1000000 in
theorem madeRates_any (x0 x1 : Int) (w : World) (h0 : -9223372036854775808 ≤ x0 ∧ x0 ≤ 9223372036854775807) (h1 : -9223372036854775808 ≤ x1 ∧ x1 ≤ 9223372036854775807) :
    Calls Tryd.prog 23 #[.agg #[.int .i64 x0, .int .i64 x1]] w fun e w' => e = .returned (.agg #[.int .i64 (rateZ x0), .int .i64 (rateZ x1)]) ∧ Below w.heap.size w w' := by
  have b0 := pick_bd x0 100000 (by omega)
  have b1 := pick_bd x1 100000 (by omega)
  have H0 := Lib.hid h0
  have H1 := Lib.hid h1
  have E0 := Lib.hid (show rateZ x0 = 1 + pickZ x0 100000 from rfl)
  have E1 := Lib.hid (show rateZ x1 = 1 + pickZ x1 100000 from rfl)
  clear h0 h1
  rw [E0.out, E1.out]
  go_enter Tryd.func23, Tryd.ntmps23
  go_wp2_with fail
  refine wp_region_kin_tail 9 (by kernel_rfl) (by kernel_rfl) (w.heap.size) 2 (by first | assumption | (simp; done) | (simp; omega) | omega | (have := HS.out; omega)) (fun hk => ?_)
  simp only [List.take_succ_cons, List.take_zero, List.drop_succ_cons, List.drop_zero]
  repeat (go_big_quiet_step ((go_at_call 54; exact Calls.kin_same (pickR_any _ _ _ (by omega) (by first | exact H0.out.1 | exact H1.out.1) (by first | exact H0.out.2 | exact H1.out.2)))))
  refine wpQuiet_nil ?_
  clear hk
  intro W2 hb2
  obtain ⟨hc2, hf2, hz2⟩ := after (B := w.heap.size) 2 hb2 (by first | assumption | (simp; done) | (simp; omega) | omega | (have := HS.out; omega)); have HB2 := Lib.hid hb2; clear hb2
  go_wp2
  refine bodyPost_ret (v := _) (by first | (simp [results, Tryd.results23, go_sem]; done) | simp [results, Tryd.results23, go_sem, *]) rfl ⟨rfl, by (repeat' first | exact Below.refl _ _ | assumption | (refine Below.andThen ?_ HB2.out) | (exact HB2.out.size) | (refine below_drewN ?_ _) | (refine Below.drew ?_) | (refine Below.alloc ?_ ?_ _) | (refine Below.setCell ?_ ?_ _) | (simp; done) | (simp; omega) | omega)⟩

/-- what one unit is worth in another one of its kind -/
def worthRN (f t c e : Int) : Int := if f = 3 ∧ t = 2 then 3048 else if f = 2 ∧ t = 3 then 10000 else if f = 5 ∧ t = 4 then 45359237 else if f = 4 ∧ t = 5 then 100000000 else if f = 6 ∧ t = 7 then e else if f = 7 ∧ t = 6 then c else 1
def worthRD (f t c e : Int) : Int := if f = 3 ∧ t = 2 then 10000 else if f = 2 ∧ t = 3 then 3048 else if f = 5 ∧ t = 4 then 100000000 else if f = 4 ∧ t = 5 then 45359237 else if f = 6 ∧ t = 7 then c else if f = 7 ∧ t = 6 then e else 1

set_option maxHeartbeats 1000000 in
theorem worthR_any (f t c e : Int) (w : World) :
    Calls Tryd.prog 39 #[.int .i64 f, .int .i64 t, .agg #[.int .i64 c, .int .i64 e]] w fun r w' => r = .returned (.tuple #[.int .i64 (worthRN f t c e), .int .i64 (worthRD f t c e)]) ∧ Below w.heap.size w w' := by
  have key : (f = 3 ∧ t = 2) ∨ (f = 2 ∧ t = 3) ∨ (f = 5 ∧ t = 4) ∨ (f = 4 ∧ t = 5) ∨ (f = 6 ∧ t = 7) ∨ (f = 7 ∧ t = 6) ∨ (¬(f = 3 ∧ t = 2) ∧ ¬(f = 2 ∧ t = 3) ∧ ¬(f = 5 ∧ t = 4) ∧ ¬(f = 4 ∧ t = 5) ∧ ¬(f = 6 ∧ t = 7) ∧ ¬(f = 7 ∧ t = 6)) := by omega
  rcases key with ⟨rfl, rfl⟩ | ⟨rfl, rfl⟩ | ⟨rfl, rfl⟩ | ⟨rfl, rfl⟩ | ⟨rfl, rfl⟩ | ⟨rfl, rfl⟩ | ⟨h1, h2, h3, h4, h5, h6⟩
  · go_enter Tryd.func39, Tryd.ntmps39
    go_wp2
    go_ret2
    exact ⟨rfl, by (repeat' first | exact Below.refl _ _ | assumption | (refine below_drewN ?_ _) | (refine Below.drew ?_) | (refine Below.alloc ?_ ?_ _) | (refine Below.setCell ?_ ?_ _) | (simp; done) | (simp; omega) | omega)⟩
  · go_enter Tryd.func39, Tryd.ntmps39
    go_wp2
    go_ret2
    exact ⟨rfl, by (repeat' first | exact Below.refl _ _ | assumption | (refine below_drewN ?_ _) | (refine Below.drew ?_) | (refine Below.alloc ?_ ?_ _) | (refine Below.setCell ?_ ?_ _) | (simp; done) | (simp; omega) | omega)⟩
  · go_enter Tryd.func39, Tryd.ntmps39
    go_wp2
    go_ret2
    exact ⟨rfl, by (repeat' first | exact Below.refl _ _ | assumption | (refine below_drewN ?_ _) | (refine Below.drew ?_) | (refine Below.alloc ?_ ?_ _) | (refine Below.setCell ?_ ?_ _) | (simp; done) | (simp; omega) | omega)⟩
  · go_enter Tryd.func39, Tryd.ntmps39
    go_wp2
    go_ret2
    exact ⟨rfl, by (repeat' first | exact Below.refl _ _ | assumption | (refine below_drewN ?_ _) | (refine Below.drew ?_) | (refine Below.alloc ?_ ?_ _) | (refine Below.setCell ?_ ?_ _) | (simp; done) | (simp; omega) | omega)⟩
  · go_enter Tryd.func39, Tryd.ntmps39
    go_wp2
    go_quiet (fail)
    go_wp2
    go_ret2
    exact ⟨rfl, by (repeat' first | exact Below.refl _ _ | assumption | (refine below_drewN ?_ _) | (refine Below.drew ?_) | (refine Below.alloc ?_ ?_ _) | (refine Below.setCell ?_ ?_ _) | (simp; done) | (simp; omega) | omega)⟩
  · go_enter Tryd.func39, Tryd.ntmps39
    go_wp2
    go_quiet (fail)
    go_wp2
    go_ret2
    exact ⟨rfl, by (repeat' first | exact Below.refl _ _ | assumption | (refine below_drewN ?_ _) | (refine Below.drew ?_) | (refine Below.alloc ?_ ?_ _) | (refine Below.setCell ?_ ?_ _) | (simp; done) | (simp; omega) | omega)⟩
  · have e1 : worthRN f t c e = 1 := by simp [worthRN, h1, h2, h3, h4, h5, h6]
    have e2 : worthRD f t c e = 1 := by simp [worthRD, h1, h2, h3, h4, h5, h6]
    rw [e1, e2]
    have H1 := Lib.hid h1
    have H2 := Lib.hid h2
    have H3 := Lib.hid h3
    have H4 := Lib.hid h4
    have H5 := Lib.hid h5
    have H6 := Lib.hid h6
    clear h1 h2 h3 h4 h5 h6 e1 e2
    go_enter Tryd.func39, Tryd.ntmps39
    go_wp2
    all_goals first
      | (go_ret2; exact ⟨rfl, by (repeat' first | exact Below.refl _ _ | assumption | (refine below_drewN ?_ _) | (refine Below.drew ?_) | (refine Below.alloc ?_ ?_ _) | (refine Below.setCell ?_ ?_ _) | (simp; done) | (simp; omega) | omega)⟩)
      | (exfalso; have := H1.out; have := H2.out; have := H3.out; have := H4.out; have := H5.out; have := H6.out; simp_all; done)
      | (exfalso; have := H1.out; have := H2.out; have := H3.out; have := H4.out; have := H5.out; have := H6.out; omega)

def closestB (a b x y n d : Int) : Bool := decide (a * d ≤ x * n) && decide (x * n < (a + 1) * d) && decide (y * n ≤ b * d) && decide ((b - 1) * d < y * n)

set_option maxHeartbeats 1000000 in
theorem closest_any (a b u x y n d : Int) (w : World) (h1 : 0 ≤ a) (h2 : a ≤ 999999) (h3 : 0 ≤ b) (h4 : b ≤ 999999) (h5 : 0 ≤ x) (h6 : x ≤ 999999) (h7 : 0 ≤ y) (h8 : y ≤ 999999) (h9 : 0 ≤ n) (h10 : n ≤ 100000000) (h11 : 1 ≤ d) (h12 : d ≤ 100000000) :
    Calls Tryd.prog 40 #[.agg #[.int .i64 a, .int .i64 b, .int .i64 u], .int .i64 x, .int .i64 y, .int .i64 n, .int .i64 d] w fun r w' => r = .returned (.bool (closestB a b x y n d)) ∧ Below w.heap.size w w' := by
  have p1 : 0 ≤ a * d := Int.mul_nonneg h1 (by omega)
  have p2 : a * d ≤ 999999 * 100000000 := Int.mul_le_mul h2 h12 (by omega) (by omega)
  have p3 : 0 ≤ x * n := Int.mul_nonneg h5 h9
  have p4 : x * n ≤ 999999 * 100000000 := Int.mul_le_mul h6 h10 h9 (by omega)
  have p5 : 0 ≤ b * d := Int.mul_nonneg h3 (by omega)
  have p6 : b * d ≤ 999999 * 100000000 := Int.mul_le_mul h4 h12 (by omega) (by omega)
  have p7 : 0 ≤ y * n := Int.mul_nonneg h7 h9
  have p8 : y * n ≤ 999999 * 100000000 := Int.mul_le_mul h8 h10 h9 (by omega)
  have e1 : (a + 1) * d = a * d + d := by rw [Int.add_mul, Int.one_mul]
  have e2 : (b - 1) * d = b * d - d := by rw [Int.sub_mul, Int.one_mul]
  have p9 : 0 ≤ (a + 1) * d := by omega
  have p10 : (a + 1) * d ≤ 200000000000000 := by omega
  have p11 : -100000000 ≤ (b - 1) * d := by omega
  have p12 : (b - 1) * d ≤ 200000000000000 := by omega
  clear e1 e2
  go_enter Tryd.func40, Tryd.ntmps40
  go_wp2
  all_goals
    go_ret
    refine ⟨retv (vbool ?_), by (repeat' first | exact Below.refl _ _ | assumption | (refine below_drewN ?_ _) | (refine Below.drew ?_) | (refine Below.alloc ?_ ?_ _) | (refine Below.setCell ?_ ?_ _) | (simp; done) | (simp; omega) | omega)⟩
    first | (simp [closestB, *]; done) | (simp [closestB, *]; omega)
end Go.Proofs.YtdldokhiefeloaaDoor
