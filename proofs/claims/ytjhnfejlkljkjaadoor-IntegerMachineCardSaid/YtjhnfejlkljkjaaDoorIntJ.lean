/- The closure of the quotient: whether a multiple is at most the rest. -/
import Derived.Test.YtjhnfejlkljkjaaDoorIntI
namespace Go.Proofs.YtjhnfejlkljkjaaDoor
open Go.RowKit

theorem cmpN_le (a b : Nat) : decide (In.cmpN a b ≤ 0) = decide (a ≤ b) := by
  rcases Nat.lt_trichotomy a b with h | h | h
  · rw [In.cmpN_lt h, decide_eq_true (by omega), decide_eq_true (by omega)]
  · rw [h, In.cmpN_eq, decide_eq_true (by omega), decide_eq_true (by omega)]
  · rw [In.cmpN_gt h, decide_eq_false (by omega), decide_eq_false (by omega)]
theorem cmpN_neg (a b : Nat) : decide (In.cmpN a b < 0) = decide (a < b) := by
  rcases Nat.lt_trichotomy a b with h | h | h
  · rw [In.cmpN_lt h, decide_eq_true (by omega), decide_eq_true (by omega)]
  · rw [h, In.cmpN_eq, decide_eq_false (by omega), decide_eq_false (by omega)]
  · rw [In.cmpN_gt h, decide_eq_false (by omega), decide_eq_false (by omega)]
set_option maxRecDepth 100000 in
set_option maxHeartbeats 2000000 in
theorem over1_any (v u : Value) (b R d bm br : Nat) (w : World) (hv : NSl w v b) (hu : NSl w u R) (cm : w.cell? ⟨bm, 0, none⟩ = some (.func (.func 53) #[v] #[])) (cr : w.cell? ⟨br, 0, none⟩ = some u) (lm : bm < w.heap.size) (lr : br < w.heap.size)
    (lb : (In.gs b).length ≤ 990) (lR : (In.gs R).length ≤ 1000) (hd : d < 10000) :
    Calls Tryd.prog 57 (#[.int .i64 d] ++ #[.pointer (some ⟨bm, 0, none⟩), .pointer (some ⟨br, 0, none⟩)]) w fun e w' => e = .returned (.bool (decide (b * d ≤ R))) ∧ Below w.heap.size w w' := by
  have HV := Lib.hid hv
  have HU := Lib.hid hu
  have h00 : Below w.heap.size w w.drew := (Below.refl _ _).drew
  have l2 : (In.gs (b * d)).length ≤ 1000 := by
    have h := gs_len_mul b d
    have e : (In.gs d).length ≤ 1 := In.gr_len_le (by decide) 1 d (by omega)
    omega
  have c1 : w.drew.cell? ⟨bm, 0, none⟩ = some (.func (.func 53) #[v] #[]) := cm
  have c2 : w.drew.cell? ⟨br, 0, none⟩ = some u := cr
  have CS := Lib.hid (scaled_any v b d w.drew (hv.next h00) (by omega) hd)
  have HD := Lib.hid (cmpN_le (b * d) R)
  clear hv hu
  go_enter Tryd.func57, Tryd.ntmps57
  go_upto_region 1 with (fail)
  first | (go_region_held3 (fun w' => w'.cell? ⟨bm, 0, none⟩ = some (.func (.func 53) #[v] #[]) ∧ w'.cell? ⟨br, 0, none⟩ = some u) (first | exact ⟨by assumption, by assumption⟩ | go_keep) (first
    | (go_at_call 53; with_reducible refine Calls.mono CS.out ?_; rintro e wa ⟨r1, rfl, hn1, hb1⟩; have HA := Lib.hid (And.intro hn1 (Below.andThen h00 hb1)); have na := (HA.out.2.cell (p := ⟨bm, 0, none⟩) lm).trans cm; have nr := (HA.out.2.cell (p := ⟨br, 0, none⟩) lr).trans cr; clear hn1 hb1)
    | (go_at_call 48; with_reducible refine Calls.mono (compare_any r1 u (b * d) R _ HA.out.1 (HU.out.next HA.out.2) l2 lR) ?_; rintro e wb ⟨rfl, hb2⟩; have HB := Lib.hid (Below.andThen HA.out.2 hb2); have nb := (HB.out.cell (p := ⟨bm, 0, none⟩) lm).trans cm; have nq := (HB.out.cell (p := ⟨br, 0, none⟩) lr).trans cr; clear hb2))) | fail
  go_wp2_with fail
  go_ret
  exact ⟨retv (congrArg Value.bool HD.out), HB.out⟩
end Go.Proofs.YtjhnfejlkljkjaaDoor
