/- LabelLattice: contracts and small matters. -/
import Derived.Test.YthjolojpjajppaaGreatLbMG
import Derived.Test.YthjolojpjajppaaGreatLbKO
set_option linter.unusedVariables false
set_option linter.unusedSimpArgs false
set_option linter.unnecessarySimpa false
namespace Go.Proofs.YthjolojpjajppaaGreat
open Go.RowKit
namespace Lb
open Sq
theorem Join_no (x : Lb) (vx : Vd x.p) (hl : x.lk.length ≤ 2) (W : World) (hx : x.ok W) : Calls Tryz.prog 16 #[.agg #[.int .i64 x.till, .slice x.eo x.en x.ec, .slice x.co x.cn x.cc, .int .i64 x.tr, .int .i64 x.cl, .slice x.lo x.ln x.lc], .agg #[.int .i64 0, .slice none 0 0, .slice none 0 0, .int .i64 255, .int .i64 255, .slice none 0 0]] W fun e w' =>
    (∃ J : Lb, e = .returned (.tuple #[.agg #[.int .i64 J.till, .slice J.eo J.en J.ec, .slice J.co J.cn J.cc, .int .i64 J.tr, .int .i64 J.cl, .slice J.lo J.ln J.lc], .int .i64 0]) ∧ J.own w' W.heap.size ∧ J.p = x.p ∧ J.le 40) ∧ Below W.heap.size W w' := by
  have h4 : (jn x.p noneL.p).ks.length ≤ 4 := jn_two hl (by decide)
  refine (Join_own x noneL W hx (noneL_ok W)).mono fun e w' h => ⟨?_, h.2⟩
  obtain ⟨z, h1, h2, h3, h5⟩ := h.1
  rw [joinR_is (vx.okL hx) (noneL_vd.okL (noneL_ok W)), if_pos h4, show jn x.p noneL.p = x.p from jn_no vx h4] at h1 h3
  exact ⟨z, h1, h2, h3, h5⟩
theorem Below_no (x : Lb) (vx : Vd x.p) (W : World) (hx : x.ok W) : Calls Tryz.prog 19 #[.agg #[.int .i64 0, .slice none 0 0, .slice none 0 0, .int .i64 255, .int .i64 255, .slice none 0 0], .agg #[.int .i64 x.till, .slice x.eo x.en x.ec, .slice x.co x.cn x.cc, .int .i64 x.tr, .int .i64 x.cl, .slice x.lo x.ln x.lc]] W fun e w' => e = .returned (.bool true) ∧ Below W.heap.size W w' :=
  Below_c noneL x true ((below_iff (noneL_vd.okL (noneL_ok W)) (vx.okL hx) noneL_vd vx).2 (ble_no vx)) W (noneL_ok W) hx
theorem lr_len {a b c : La} (ha : Vd a) (hb : Vd b) (hc : Vd c) (h1 : (jn a b).ks.length ≤ 4) (h2 : (jn b c).ks.length ≤ 4) : (jn (jn a b) c).ks.length = (jn a (jn b c)).ks.length := by rw [jn_assoc_ks ha hb hc h1 h2]
theorem lr_eq {a b c : La} (ha : Vd a) (hb : Vd b) (hc : Vd c) (h1 : (jn a b).ks.length ≤ 4) (h2 : (jn b c).ks.length ≤ 4) : (if (jn (jn a b) c).ks.length ≤ 4 then jn (jn a b) c else zL.p) = (if (jn a (jn b c)).ks.length ≤ 4 then jn a (jn b c) else zL.p) := by
  rw [← lr_len ha hb hc h1 h2]
  split
  · rename_i h; exact jn_assoc ha hb hc h1 h2 h
  · rfl
theorem lr_fm {x : Lb} {j : La} {P : Prop} [Decidable P] (hp : x.p = if P then j else zL.p) (hv : P → Vd j) : Fm x := by
  split at hp
  · rename_i h; exact Vd.fm (by rw [hp]; exact hv h)
  · exact zL_fm hp
/-- Below and Same, as the laws ask for them -/
theorem below_same {w : World} {x y j : Lb} (hx : x.ok w) (hy : y.ok w) (hj : j.ok w) (vx : Vd x.p) (vy : Vd y.p) (vj : Vd j.p) (h4 : (jn x.p y.p).ks.length ≤ 4) (e : j.p = jn x.p y.p) : rsL j y = belowL x y := by
  refine bool_iff ?_
  rw [rsL_iff hj hy vj.fm vy.fm, below_iff (vx.okL hx) (vy.okL hy) vx vy, ble_iff_jn vx vy h4, e]
theorem same_true {w : World} {x y : Lb} (hx : x.ok w) (hy : y.ok w) (fx : Fm x) (fy : Fm y) (e : x.p = y.p) : rsL x y = true := (rsL_iff hx hy fx fy).2 e
theorem below_true {w : World} {x y : Lb} (hx : x.ok w) (hy : y.ok w) (vx : Vd x.p) (vy : Vd y.p) (h : Ble x.p y.p) : belowL x y = true := (below_iff (vx.okL hx) (vy.okL hy) vx vy).2 h
theorem order_law {w : World} {a b c e : Lb} (ka : a.ok w) (kb : b.ok w) (kc : c.ok w) (ke : e.ok w) (va : Vd a.p) (vb : Vd b.p) (vc : Vd c.p) (ve : Vd e.p) (he : e.p = jn a.p b.p) :
    (belowL a b = true → belowL b a = true → rsL a b = true) ∧ (belowL a b = true → belowL b c = true → belowL a c = true) ∧ (belowL a c = true → belowL b c = true → belowL e c = true) := by
  have ba := below_iff (va.okL ka) (vb.okL kb) va vb
  have bb := below_iff (vb.okL kb) (va.okL ka) vb va
  have bc := below_iff (vb.okL kb) (vc.okL kc) vb vc
  have ac := below_iff (va.okL ka) (vc.okL kc) va vc
  have ec := below_iff (ve.okL ke) (vc.okL kc) ve vc
  rw [ba, bb, bc, ac, ec, he, rsL_iff ka kb va.fm vb.fm]
  exact ⟨fun h g => ble_anti va vb h g, fun h g => ble_trans h g, fun h g => ble_lub va vb h g⟩
theorem row_zerob {W w4 : World} (hb : Below (W.alloc (.cells #[.int .i64 0, .slice none 0 0, .slice none 0 0, .int .i64 0, .int .i64 0, .slice none 0 0] 28)).heap.size (W.alloc (.cells #[.int .i64 0, .slice none 0 0, .slice none 0 0, .int .i64 0, .int .i64 0, .slice none 0 0] 28)) w4) : Row w4 W.heap.size 28 zC6 := Row.next (Row.new W 28 zC6) hb
theorem boxL_set {w : World} {b : Nat} {x : Lb} {B : Nat} (h : x.own w B) (hr : Row w b 28 zC6) : BoxL ((((((w.setCell ⟨b, 0, none⟩ (.int .i64 x.till)).setCell ⟨b, 1, none⟩ (.slice x.eo x.en x.ec)).setCell ⟨b, 2, none⟩ (.slice x.co x.cn x.cc)).setCell ⟨b, 3, none⟩ (.int .i64 x.tr)).setCell ⟨b, 4, none⟩ (.int .i64 x.cl)).setCell ⟨b, 5, none⟩ (.slice x.lo x.ln x.lc)) b x :=
  ⟨(((((hr.set 0 _).set 1 _).set 2 _).set 3 _).set 4 _).set 5 _, (lb_set6 h hr).ok⟩
end Lb
end Go.Proofs.YthjolojpjajppaaGreat
