/- Contracts in the form in which the laws' walks want them. -/
import Derived.Test.YthjolojpjajppaaGreatLbMD
import Derived.Test.YthjolojpjajppaaGreatLbMF
import Derived.Test.YthjolojpjajppaaGreatLbSC
set_option linter.unusedVariables false
set_option linter.unusedSimpArgs false
set_option linter.unnecessarySimpa false
namespace Go.Proofs.YthjolojpjajppaaGreat
open Go.RowKit
namespace Lb
open Sq
theorem pick_nat (c : Int) {n : Nat} (hn : 0 < n) : ∃ t : Nat, pickZ c n = t ∧ t < n := by
  have := pick_in c (n := n) (by omega)
  exact ⟨(pickZ c n).toNat, by omega, by omega⟩
theorem Made_c (x0 x1 x2 x3 x4 x5 x6 : Int) (h : inM1 x0 ∧ inM1 x1 ∧ inM1 x2 ∧ inM1 x3 ∧ inM1 x4 ∧ inM1 x5 ∧ inM1 x6) (W : World) : Calls Tryz.prog 12 #[.agg #[.int .i64 x0, .int .i64 x1, .int .i64 x2, .int .i64 x3, .int .i64 x4, .int .i64 x5, .int .i64 x6]] W fun e w' =>
    (∃ A : Lb, e = .returned (.agg #[.int .i64 A.till, .slice A.eo A.en A.ec, .slice A.co A.cn A.cc, .int .i64 A.tr, .int .i64 A.cl, .slice A.lo A.ln A.lc]) ∧ A.own w' W.heap.size ∧ Vd A.p ∧ A.lk.length ≤ 2) ∧ Below W.heap.size W w' :=
  Made_any x0 x1 x2 x3 x4 x5 x6 W h.1 h.2.1 h.2.2.1 h.2.2.2.1 h.2.2.2.2.1 h.2.2.2.2.2.1 h.2.2.2.2.2.2
theorem Moment_c (x0 x1 x2 x3 x4 : Int) (h : inM1 x0 ∧ inM1 x1 ∧ inM1 x2 ∧ inM1 x3 ∧ inM1 x4) (W : World) : Calls Tryz.prog 22 #[.agg #[.int .i64 x0, .int .i64 x1, .int .i64 x2, .int .i64 x3, .int .i64 x4]] W fun e w' =>
    (∃ m : Mo, e = .returned (.agg #[.int .i64 m.now, .int .i64 m.drift, .slice m.eo m.en m.ec, .slice m.co m.cn m.cc, .slice m.ko m.kn m.kc]) ∧ m.own w' W.heap.size ∧ Vm m ∧ m.now ≤ 390 ∧ m.drift ≤ 14) ∧ Below W.heap.size W w' :=
  Moment_any x0 x1 x2 x3 x4 W h.1 h.2.1 h.2.2.1 h.2.2.2.1 h.2.2.2.2
theorem None_c (W : World) : Calls Tryz.prog 34 #[] W fun e w' => e = .returned (.agg #[.int .i64 0, .slice none 0 0, .slice none 0 0, .int .i64 255, .int .i64 255, .slice none 0 0]) ∧ Below W.heap.size W w' := None_any W
theorem Open_c (x : Lb) (t c : Nat) (m : Mo) (z : Bool) (hz : openL x t c m = z) (W : World) (hx : x.ok W) (hm : m.ok W) : Calls Tryz.prog 26 #[.agg #[.int .i64 x.till, .slice x.eo x.en x.ec, .slice x.co x.cn x.cc, .int .i64 x.tr, .int .i64 x.cl, .slice x.lo x.ln x.lc], .agg #[.int .i64 t, .int .i64 c], .agg #[.int .i64 m.now, .int .i64 m.drift, .slice m.eo m.en m.ec, .slice m.co m.cn m.cc, .slice m.ko m.kn m.kc]] W fun e w' => e = .returned (.bool z) ∧ Below W.heap.size W w' := by
  subst hz
  exact Open_any x t c m W hx hm
theorem Reason_c (x : Lb) (t c : Nat) (m : Mo) (z : Int) (hz : reasonL x t c m = z) (W : World) (hx : x.ok W) (hm : m.ok W) : Calls Tryz.prog 24 #[.agg #[.int .i64 x.till, .slice x.eo x.en x.ec, .slice x.co x.cn x.cc, .int .i64 x.tr, .int .i64 x.cl, .slice x.lo x.ln x.lc], .agg #[.int .i64 t, .int .i64 c], .agg #[.int .i64 m.now, .int .i64 m.drift, .slice m.eo m.en m.ec, .slice m.co m.cn m.cc, .slice m.ko m.kn m.kc]] W fun e w' => e = .returned (.int .i64 z) ∧ Below W.heap.size W w' := by
  subst hz
  exact Reason_any x t c m W hx hm
theorem Below_c (x y : Lb) (z : Bool) (hz : belowL x y = z) (W : World) (hx : x.ok W) (hy : y.ok W) : Calls Tryz.prog 19 #[.agg #[.int .i64 x.till, .slice x.eo x.en x.ec, .slice x.co x.cn x.cc, .int .i64 x.tr, .int .i64 x.cl, .slice x.lo x.ln x.lc], .agg #[.int .i64 y.till, .slice y.eo y.en y.ec, .slice y.co y.cn y.cc, .int .i64 y.tr, .int .i64 y.cl, .slice y.lo y.ln y.lc]] W fun e w' => e = .returned (.bool z) ∧ Below W.heap.size W w' := by
  subst hz
  exact Below_any x y W hx hy
theorem Same_c (x y : Lb) (z : Bool) (hz : rsL x y = z) (hl : x.le 2000) (hl2 : y.le 2000) (W : World) (hx : x.ok W) (hy : y.ok W) : Calls Tryz.prog 18 #[.agg #[.int .i64 x.till, .slice x.eo x.en x.ec, .slice x.co x.cn x.cc, .int .i64 x.tr, .int .i64 x.cl, .slice x.lo x.ln x.lc], .agg #[.int .i64 y.till, .slice y.eo y.en y.ec, .slice y.co y.cn y.cc, .int .i64 y.tr, .int .i64 y.cl, .slice y.lo y.ln y.lc]] W fun e w' => e = .returned (.bool z) ∧ Below W.heap.size W w' := by
  subst hz
  exact rSame_any x y W hx hy hl hl2
/-- Join of valid labels that have few locks -/
theorem Join_c (x y : Lb) (vx : Vd x.p) (vy : Vd y.p) (W : World) (hx : x.ok W) (hy : y.ok W) : Calls Tryz.prog 16 #[.agg #[.int .i64 x.till, .slice x.eo x.en x.ec, .slice x.co x.cn x.cc, .int .i64 x.tr, .int .i64 x.cl, .slice x.lo x.ln x.lc], .agg #[.int .i64 y.till, .slice y.eo y.en y.ec, .slice y.co y.cn y.cc, .int .i64 y.tr, .int .i64 y.cl, .slice y.lo y.ln y.lc]] W fun e w' =>
    (∃ J : Lb, e = .returned (.tuple #[.agg #[.int .i64 J.till, .slice J.eo J.en J.ec, .slice J.co J.cn J.cc, .int .i64 J.tr, .int .i64 J.cl, .slice J.lo J.ln J.lc], .int .i64 (if (jn x.p y.p).ks.length ≤ 4 then 0 else 100)]) ∧ J.ok w' ∧ J.p = (if (jn x.p y.p).ks.length ≤ 4 then jn x.p y.p else zL.p) ∧ J.le 40) ∧ Below W.heap.size W w' := by
  refine (Join_any x y W hx hy).mono fun e w' h => ⟨?_, h.2⟩
  obtain ⟨z, h1, h2, h3, h4⟩ := h.1
  rw [joinR_is (vx.okL hx) (vy.okL hy)] at h1 h3
  refine ⟨z, ?_, h2, ?_, h4⟩
  · rw [h1]
    split <;> rfl
  · rw [h3]
    split <;> rfl
theorem Join_ok (x y : Lb) (vx : Vd x.p) (vy : Vd y.p) (h4 : (jn x.p y.p).ks.length ≤ 4) (W : World) (hx : x.ok W) (hy : y.ok W) : Calls Tryz.prog 16 #[.agg #[.int .i64 x.till, .slice x.eo x.en x.ec, .slice x.co x.cn x.cc, .int .i64 x.tr, .int .i64 x.cl, .slice x.lo x.ln x.lc], .agg #[.int .i64 y.till, .slice y.eo y.en y.ec, .slice y.co y.cn y.cc, .int .i64 y.tr, .int .i64 y.cl, .slice y.lo y.ln y.lc]] W fun e w' =>
    (∃ J : Lb, e = .returned (.tuple #[.agg #[.int .i64 J.till, .slice J.eo J.en J.ec, .slice J.co J.cn J.cc, .int .i64 J.tr, .int .i64 J.cl, .slice J.lo J.ln J.lc], .int .i64 0]) ∧ J.ok w' ∧ J.p = jn x.p y.p ∧ J.le 40) ∧ Below W.heap.size W w' := by
  have h := Join_c x y vx vy W hx hy
  rw [if_pos h4, if_pos h4] at h
  exact h
theorem jn_two {x y : Lb} (h1 : x.lk.length ≤ 2) (h2 : y.lk.length ≤ 2) : (jn x.p y.p).ks.length ≤ 4 := by
  have h := jn_len x.p y.p
  have e1 : x.p.ks.length = x.lk.length := List.length_map ..
  have e2 : y.p.ks.length = y.lk.length := List.length_map ..
  omega
theorem BoxL.k {w : World} {b : Nat} {x : Lb} (h : BoxL w b x) : x.ok w := h.2
theorem BoxM.k {w : World} {b : Nat} {m : Mo} (h : BoxM w b m) : m.ok w := h.2
theorem boxL_new {x : Lb} (W : World) (h : x.ok W) : BoxL (W.alloc (.cells #[.int .i64 x.till, .slice x.eo x.en x.ec, .slice x.co x.cn x.cc, .int .i64 x.tr, .int .i64 x.cl, .slice x.lo x.ln x.lc] 28)) W.heap.size x :=
  ⟨Row.new W _ [.int .i64 x.till, .slice x.eo x.en x.ec, .slice x.co x.cn x.cc, .int .i64 x.tr, .int .i64 x.cl, .slice x.lo x.ln x.lc], h.next ((Below.refl _ _).alloc (Nat.le_refl _) _)⟩
theorem boxM_new {m : Mo} (W : World) (h : m.ok W) : BoxM (W.alloc (.cells #[.int .i64 m.now, .int .i64 m.drift, .slice m.eo m.en m.ec, .slice m.co m.cn m.cc, .slice m.ko m.kn m.kc] 30)) W.heap.size m :=
  ⟨Row.new W _ [.int .i64 m.now, .int .i64 m.drift, .slice m.eo m.en m.ec, .slice m.co m.cn m.cc, .slice m.ko m.kn m.kc], h.next ((Below.refl _ _).alloc (Nat.le_refl _) _)⟩
theorem boxR_new (W : World) (t c : Int) : BoxR (W.alloc (.cells #[.int .i64 t, .int .i64 c] 32)) W.heap.size t c := Row.new W _ [.int .i64 t, .int .i64 c]
/-- the label that demands nothing, with no cells -/
theorem noneL_p : noneL.p = noA := rfl
theorem noneL_vd : Vd noneL.p := noA_vd
/-- two labels side by side -/
def prE : El (Lb × Lb) := ⟨12, fun x => [.int .i64 x.1.till, .slice x.1.eo x.1.en x.1.ec, .slice x.1.co x.1.cn x.1.cc, .int .i64 x.1.tr, .int .i64 x.1.cl, .slice x.1.lo x.1.ln x.1.lc, .int .i64 x.2.till, .slice x.2.eo x.2.en x.2.ec, .slice x.2.co x.2.cn x.2.cc, .int .i64 x.2.tr, .int .i64 x.2.cl, .slice x.2.lo x.2.ln x.2.lc], by decide, fun _ => rfl, fun x u hu => by
  simp at hu
  rcases hu with rfl | rfl | rfl | rfl | rfl | rfl | rfl | rfl | rfl | rfl | rfl | rfl <;> rfl⟩
/-- labels in a row -/
def lbE : El Lb := ⟨6, fun x => [.int .i64 x.till, .slice x.eo x.en x.ec, .slice x.co x.cn x.cc, .int .i64 x.tr, .int .i64 x.cl, .slice x.lo x.ln x.lc], by decide, fun _ => rfl, fun x u hu => by
  simp at hu
  rcases hu with rfl | rfl | rfl | rfl | rfl | rfl <;> rfl⟩
/-- what is open to the greater one is open to the lesser one -/
theorem joins_law {x y : Lb} {t c : Nat} {m : Mo} (hx : vdL x = true) (hy : vdL y = true) (vx : Vd x.p) (vy : Vd y.p) (ht : t ≤ 7) (hc : c ≤ 7) (hm : Vm m) : (belowL x y && (openL y t c m && !openL x t c m)) = false := by
  cases h1 : belowL x y
  · rfl
  · cases h2 : openL y t c m
    · rfl
    · have g1 := (below_iff hx hy vx vy).1 h1
      have g2 := (open_iff hy vy ht hc hm).1 h2
      rw [(open_iff hx vx ht hc hm).2 (opn_ble g1 g2)]
      rfl
theorem join_open {x y j : Lb} {t c : Nat} {m : Mo} (hx : vdL x = true) (hy : vdL y = true) (hj : vdL j = true) (vx : Vd x.p) (vy : Vd y.p) (vj : Vd j.p) (e : j.p = jn x.p y.p) (ht : t ≤ 7) (hc : c ≤ 7) (hm : Vm m) : openL j t c m = (openL x t c m && openL y t c m) := by
  refine bool_iff ?_
  rw [open_iff hj vj ht hc hm, e, opn_jn vx vy, Bool.and_eq_true, open_iff hx vx ht hc hm, open_iff hy vy ht hc hm]
end Lb
end Go.Proofs.YthjolojpjajppaaGreat
