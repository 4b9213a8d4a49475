/- Numbers with signs: signed, parse, minus. -/
/- Numbers with signs: where they are stored; parse, minus. -/
/- Numbers with signs: parse, compare, print. -/
/- Numbers with signs: sums. -/
import Derived.Test.YtlehjmanlccncaaGreatDoorIntGD
set_option linter.unusedVariables false
set_option linter.unusedSimpArgs false
namespace Go.Proofs.YtlehjmanlccncaaGreatDoor
open Go.RowKit

theorem neg_of {n : Nat} {s : Bool} {L : Nat} (hL : (In.gs n).length = L) : In.neg (In.sgn n s) = (s && decide (0 < L)) := by
  rw [In.neg_sgn]
  have h := In.gs_nil (n := n)
  rw [hL] at h
  congr 1
  rw [decide_eq_decide]
  omega
/-- how a result with a sign ends -/
theorem num_end {w W : World} {o : Option Addr} {L c n : Nat} {s b : Bool} (hn : NSl w (.slice o L c) n) (hg : In.neg (In.sgn n s) = (s && decide (0 < L))) (hb : b = (s && decide (0 < L))) (hB : Below w.heap.size w W) :
    ∃ r, Ending.returned (.agg #[.slice o L c, .bool b]) = .returned r ∧ NumV W r (In.sgn n s) ∧ Below w.heap.size w W := by
  refine ⟨_, rfl, ⟨_, by rw [hg, hb], ?_⟩, hB⟩
  rw [In.sgn_abs]
  exact hn.next hB
set_option maxRecDepth 100000 in
set_option maxHeartbeats 1000000 in
theorem signed_any (u : Value) (n : Nat) (s : Bool) (w : World) (hn : NSl w u n) :
    Calls Tryz.prog 93 #[u, .bool s] w fun e w' => ∃ r, e = .returned r ∧ NumV w' r (In.sgn n s) ∧ Below w.heap.size w w' := by
  have HN := Lib.hid hn
  obtain ⟨o, c, rfl, a1, a2, a3, a4⟩ := hn.ex
  generalize hL : (In.gs n).length = L at *
  have HNG := Lib.hid (neg_of (s := s) hL)
  clear hn a4 a3 hL
  cases s
  · go_enter Tryz.func93, Tryz.ntmps93
    go_wp2_with fail
    refine bodyPost_ret (v := .agg #[.slice o L c, .bool false]) (by first | (simp [results, Tryz.results93, go_sem]; done) | simp [results, Tryz.results93, go_sem, *]) rfl (num_end HN.out HNG.out rfl (by (repeat' first | exact Below.refl _ _ | assumption | (refine below_drewN ?_ _) | (refine Below.drew ?_) | (refine Below.alloc ?_ ?_ _) | (refine Below.setCell ?_ ?_ _) | (simp; done) | (simp; omega) | omega)))
  · by_cases h0 : 0 < L
    · have d0 : decide (0 < (L : Int)) = true := by simp; omega
      go_enter Tryz.func93, Tryz.ntmps93
      go_wp2_with fail
      refine bodyPost_ret (v := .agg #[.slice o L c, .bool true]) (by first | (simp [results, Tryz.results93, go_sem]; done) | simp [results, Tryz.results93, go_sem, *]) rfl (num_end HN.out HNG.out (by simp [h0]) (by (repeat' first | exact Below.refl _ _ | assumption | (refine below_drewN ?_ _) | (refine Below.drew ?_) | (refine Below.alloc ?_ ?_ _) | (refine Below.setCell ?_ ?_ _) | (simp; done) | (simp; omega) | omega)))
    · obtain rfl : L = 0 := by omega
      go_enter Tryz.func93, Tryz.ntmps93
      go_wp2_with fail
      refine bodyPost_ret (v := .agg #[.slice o 0 c, .bool false]) (by first | (simp [results, Tryz.results93, go_sem]; done) | simp [results, Tryz.results93, go_sem, *]) rfl (num_end HN.out HNG.out rfl (by (repeat' first | exact Below.refl _ _ | assumption | (refine below_drewN ?_ _) | (refine Below.drew ?_) | (refine Below.alloc ?_ ?_ _) | (refine Below.setCell ?_ ?_ _) | (simp; done) | (simp; omega) | omega)))
end Go.Proofs.YtlehjmanlccncaaGreatDoor
set_option linter.unusedVariables false
set_option linter.unusedSimpArgs false
namespace Go.Proofs.YtlehjmanlccncaaGreatDoor
open Go.RowKit

abbrev zeroN : List Value := [.slice none 0 0, .bool false]
/-- a store into a variable that holds a number is none into groups -/
theorem LSl.set2 {w : World} {b i : Nat} {t : TypeId} {s : Option Addr} {n c : Nat} {x : Bool} {o : Option Addr} {l : List Nat} (hR : Row w b t [.slice s n c, .bool x]) (h : LSl w o l) (v : Value) : LSl (w.setCell ⟨b, i, none⟩ v) o l := by
  rcases h with h | ⟨p, off, rfl, hp, hc⟩
  · exact .inl h
  · refine .inr ⟨p, off, rfl, by simpa using hp, fun j y hy => ?_⟩
    have h1 := hc j y hy
    have hpb : b ≠ p := by
      rintro rfl
      rw [hR.cell] at h1
      cases hj : off + j with
      | zero => rw [hj] at h1; cases h1
      | succ i =>
        rw [hj] at h1
        cases i with
        | zero => cases h1
        | succ i => simp at h1
    rw [World.cell?_setCell_far _ _ _ _ hpb]
    exact h1
theorem NumV.form {w : World} {v : Value} {z : Int} (h : NumV w v z) : ∃ o L c s, v = .agg #[.slice o L c, .bool s] ∧ NSl w (.slice o L c) z.natAbs ∧ (In.gs z.natAbs).length = L ∧ In.neg z = s := by
  obtain ⟨s, rfl, h⟩ := h
  obtain ⟨o, c, rfl, _⟩ := h.ex
  exact ⟨o, _, c, _, rfl, h, rfl, rfl⟩
theorem NumV.mk' {w : World} {o : Option Addr} {L c : Nat} {s : Bool} {z : Int} (h : NSl w (.slice o L c) z.natAbs) (hs : In.neg z = s) : NumV w (.agg #[.slice o L c, .bool s]) z := ⟨_, by rw [hs], h⟩
/-- a number is stored -/
theorem num_store {w : World} {b : Nat} {t : TypeId} {s o : Option Addr} {n c L k : Nat} {x y : Bool} {z : Int} (hR : Row w b t [.slice s n c, .bool x]) (h : NumV w (.agg #[.slice o L k, .bool y]) z) :
    NumV ((w.setCell ⟨b, 0, none⟩ (.slice o L k)).setCell ⟨b, 1, none⟩ (.bool y)) (.agg #[.slice o L k, .bool y]) z ∧ Below b w ((w.setCell ⟨b, 0, none⟩ (.slice o L k)).setCell ⟨b, 1, none⟩ (.bool y)) ∧ Row ((w.setCell ⟨b, 0, none⟩ (.slice o L k)).setCell ⟨b, 1, none⟩ (.bool y)) b t [.slice o L k, .bool y] := by
  obtain ⟨s', e, h1⟩ := h
  cases e
  obtain ⟨o', c', e', h2, h3, h4, h5⟩ := h1.ex
  cases e'
  refine ⟨⟨_, rfl, ⟨_, _, rfl, h2, h3, h4, ?_⟩⟩, ((Below.refl _ _).setCell (p := ⟨b, 0, none⟩) (Nat.le_refl _) _).setCell (p := ⟨b, 1, none⟩) (Nat.le_refl _) _, (hR.set 0 _).set 1 _⟩
  exact LSl.set2 (hR.set 0 (.slice o _ k)) (LSl.set2 hR h5 _) _
theorem NSl.store {w : World} {b i : Nat} {t : TypeId} {s : Option Addr} {n c m : Nat} {x : Bool} {v u : Value} (hR : Row w b t [.slice s n c, .bool x]) (h : NSl w v m) : NSl (w.setCell ⟨b, i, none⟩ u) v m := by
  obtain ⟨o', c', rfl, h2, h3, h4, h5⟩ := h.ex
  exact ⟨_, _, rfl, h2, h3, h4, LSl.set2 hR h5 _⟩
theorem NumV.store {w : World} {b i : Nat} {t : TypeId} {s : Option Addr} {n c : Nat} {x : Bool} {v u : Value} {z : Int} (hR : Row w b t [.slice s n c, .bool x]) (h : NumV w v z) : NumV (w.setCell ⟨b, i, none⟩ u) v z := by
  obtain ⟨s', rfl, h⟩ := h
  exact ⟨s', rfl, h.store hR⟩
theorem boxes1 (w : World) (t : TypeId) (C D : List Value) : Row ((w.alloc (.cells C.toArray t)).alloc (.cells D.toArray t)) w.heap.size t C ∧ Row ((w.alloc (.cells C.toArray t)).alloc (.cells D.toArray t)) (w.heap.size + 1) t D ∧ Below w.heap.size w ((w.alloc (.cells C.toArray t)).alloc (.cells D.toArray t)) := by
  refine ⟨(Row.new w t C).alloc _, ?_, ((Below.refl _ _).alloc (Nat.le_refl _) _).alloc (by simp) _⟩
  have := Row.new (w.alloc (.cells C.toArray t)) t D
  rwa [World.size_alloc] at this
theorem boxes2 (w : World) (t : TypeId) (C D E : List Value) : Row (((w.alloc (.cells C.toArray t)).alloc (.cells D.toArray t)).alloc (.cells E.toArray t)) w.heap.size t C ∧ Row (((w.alloc (.cells C.toArray t)).alloc (.cells D.toArray t)).alloc (.cells E.toArray t)) (w.heap.size + 1) t D ∧
    Row (((w.alloc (.cells C.toArray t)).alloc (.cells D.toArray t)).alloc (.cells E.toArray t)) (w.heap.size + 1 + 1) t E ∧ Below w.heap.size w (((w.alloc (.cells C.toArray t)).alloc (.cells D.toArray t)).alloc (.cells E.toArray t)) := by
  obtain ⟨h1, h2, h3⟩ := boxes1 w t C D
  refine ⟨h1.alloc _, h2.alloc _, ?_, h3.alloc (by simp; omega) _⟩
  have := Row.new ((w.alloc (.cells C.toArray t)).alloc (.cells D.toArray t)) t E
  rwa [World.size_alloc, World.size_alloc] at this

set_option maxRecDepth 100000 in
set_option maxHeartbeats 1000000 in
theorem neg_any (u : Value) (z : Int) (w : World) (hu : NumV w u z) :
    Calls Tryz.prog 100 #[u] w fun e w' => ∃ r, e = .returned r ∧ NumV w' r (-z) ∧ Below w.heap.size w w' := by
  obtain ⟨o, L, c, s, rfl, hs, -, hsn⟩ := hu.form
  have HS := Lib.hid hs
  have HZ := Lib.hid (show In.sgn z.natAbs (!s) = -z from by rw [← hsn, ← In.sgn_minus, In.sgn_neg])
  clear hs hsn hu
  go_enter Tryz.func100, Tryz.ntmps100
  go_upto_region 1 with (fail)
  refine wp_named fun w1 hw => ?_
  obtain ⟨b1, hb1⟩ : ∃ x, x = w.heap.size := ⟨_, rfl⟩
  obtain ⟨b2, hb2⟩ : ∃ x, x = w.heap.size + 1 := ⟨_, rfl⟩
  have R1 : Row w1 b1 91 [.slice o L c, .bool s] ∧ Row w1 b2 91 zeroN ∧ Below w.heap.size w w1 := by
    rw [hw, hb1, hb2]
    exact boxes1 w _ [.slice o L c, .bool s] zeroN
  rw [← hb2, ← hb1]
  have HR := Lib.hid R1
  have k0 := (Row.cell R1.1 0).trans (show _ = some (.slice o L c) from rfl)
  have k1 := (Row.cell R1.1 1).trans (show _ = some (.bool s) from rfl)
  have CS := Lib.hid (signed_any (.slice o L c) z.natAbs (!s) w1 (HS.out.next R1.2.2))
  rw [HZ.out] at CS
  have HE := Lib.hid hb2
  clear hw R1 hb1 hb2
  go_wp2_with fail
  refine Calls.mono CS.out ?_
  rintro e w2 ⟨r, rfl, hn, hb⟩
  have hR2 := HR.out.2.1.next hb
  have k2 := (Row.cell hR2 0).trans (show _ = some (.slice none 0 0) from rfl)
  have k3 := (Row.cell hR2 1).trans (show _ = some (.bool false) from rfl)
  have f2 := Row.frozen hR2 0
  have f3 := Row.frozen hR2 1
  obtain ⟨o', L', c', s', rfl, _, _, _⟩ := hn.form
  have HF := Lib.hid (And.intro (num_store hR2 hn) (Below.andThen HR.out.2.2 hb))
  clear hn hb hR2 k0 k1 CS
  go_wp2_with fail
  refine bodyPost_ret (v := .agg #[.slice o' L' c', .bool s']) (by first | (simp [results, Tryz.results100, go_sem]; done) | simp [results, Tryz.results100, go_sem, *]) rfl ⟨_, rfl, HF.out.1.1, HF.out.2.trans (HF.out.1.2.1.mono (by have := HE.out; omega))⟩
end Go.Proofs.YtlehjmanlccncaaGreatDoor
set_option linter.unusedVariables false
set_option linter.unusedSimpArgs false
namespace Go.Proofs.YtlehjmanlccncaaGreatDoor
open Go.RowKit

set_option maxRecDepth 100000 in
set_option maxHeartbeats 1000000 in
theorem parse_any (t : ByteArray) (w : World) (hv : In.validL t.data.toList = true) :
    Calls Tryz.prog 102 #[.string t] w fun e w' => ∃ r, e = .returned r ∧ NumV w' r (In.valL t.data.toList) ∧ Below w.heap.size w w' := by
  obtain ⟨hd1, hd2⟩ := In.v_digs hv
  obtain ⟨hn1, hn2⟩ := In.v_neg hv
  obtain ⟨z, hz⟩ : ∃ z, z = In.valL t.data.toList := ⟨_, rfl⟩
  rw [← hz] at hn1 hn2 ⊢
  obtain ⟨d, hd⟩ : ∃ d : ByteArray, d = ⟨(In.dl t.data.toList).toArray⟩ := ⟨_, rfl⟩
  have hdl : d.data.toList = In.dl t.data.toList := by rw [hd]
  have CD := Lib.hid (fun W => dash_any t W)
  rw [← hd] at CD
  have CP := Lib.hid (fun W => parseN_any d W (by unfold Digs; rw [hdl]; exact hd1) (by rw [Lib.size_eq, hdl]; omega))
  rw [hdl, ← hn2] at CP
  have hne : (d.toList == t.toList) = !In.neg z := by
    rw [ByteArray.toList_eq, ByteArray.toList_eq, hdl, hn1]
    unfold In.dl
    by_cases h : t.data.toList.head? = some 45
    · rw [if_pos h, decide_eq_true h]
      rw [Bool.not_true, beq_eq_false_iff_ne]
      intro e
      have := congrArg List.length e
      rw [List.length_tail] at this
      cases hq : t.data.toList with
      | nil => rw [hq] at h; cases h
      | cons x r => rw [hq] at this; simp at this
    · rw [if_neg h, decide_eq_false h]
      simp
  generalize hs : In.neg z = s at *
  have HS := Lib.hid hs
  have hne2 : (d.toList != t.toList) = s := by rw [bne, hne]; simp
  clear hd1 hd2 hn1 hn2 hz hd hdl hv hs
  go_enter Tryz.func102, Tryz.ntmps102
  go_upto_region 2 with (go_at_call 88; refine Calls.mono (CD.out _) ?_; rintro e w' ⟨rfl, rfl⟩)
  refine wp_named fun w1 hw => ?_
  obtain ⟨b1, hb1⟩ : ∃ x, x = w.heap.size := ⟨_, rfl⟩
  have R1 : Row w1 b1 91 zeroN ∧ Below w.heap.size w w1 := by
    rw [hw, hb1]
    exact ⟨Row.new w _ zeroN, (Below.refl _ _).alloc (Nat.le_refl _) _⟩
  rw [← hb1]
  have HR := Lib.hid R1
  have HE := Lib.hid hb1
  clear hw R1 hb1
  go_wp2_with fail
  refine Calls.mono (CP.out _) ?_
  rintro e w2 ⟨r, rfl, hn, hb⟩
  have hR2 := HR.out.1.next hb
  have k2 := (Row.cell hR2 0).trans (show _ = some (.slice none 0 0) from rfl)
  have k3 := (Row.cell hR2 1).trans (show _ = some (.bool false) from rfl)
  have f2 := Row.frozen hR2 0
  have f3 := Row.frozen hR2 1
  have hn0 := hn
  obtain ⟨o, c, rfl, _⟩ := hn.ex
  generalize (In.gs z.natAbs).length = L at *
  have HF := Lib.hid (And.intro (num_store hR2 (NumV.mk' hn0 HS.out)) (Below.andThen HR.out.2 hb))
  clear hn hb hR2 hn0
  go_wp2_with fail
  refine bodyPost_ret (v := .agg #[.slice o L c, .bool s]) (by first | (simp [results, Tryz.results102, go_sem]; done) | simp [results, Tryz.results102, go_sem, *]) rfl ⟨_, rfl, HF.out.1.1, HF.out.2.trans (HF.out.1.2.1.mono (by have := HE.out; omega))⟩

theorem cmpZ_sgn (x y : Int) : In.cmpZ x y = if In.neg x = true then (if In.neg y = true then In.cmpN y.natAbs x.natAbs else -1) else if In.neg y = true then 1 else In.cmpN x.natAbs y.natAbs := by
  unfold In.cmpZ In.neg In.cmpN
  by_cases hx : x < 0 <;> by_cases hy : y < 0 <;> simp [hx, hy] <;> (repeat' split) <;> omega
set_option maxRecDepth 100000 in
set_option maxHeartbeats 1000000 in
theorem compareZ_any (u v : Value) (x y : Int) (w : World) (hu : NumV w u x) (hv : NumV w v y) (lx : (In.gs x.natAbs).length ≤ 1000) (ly : (In.gs y.natAbs).length ≤ 1000) :
    Calls Tryz.prog 78 #[u, v] w fun e w' => e = .returned (.int .i64 (In.cmpZ x y)) ∧ Below w.heap.size w w' := by
  obtain ⟨o, L, c, s, rfl, hs, -, hsn⟩ := hu.form
  obtain ⟨o', L', c', s', rfl, hs', -, hsn'⟩ := hv.form
  have HS := Lib.hid hs
  have HS' := Lib.hid hs'
  have hZ := cmpZ_sgn x y
  rw [hsn, hsn'] at hZ
  rw [hZ]
  clear hs hsn hu hs' hsn' hv hZ
  cases s <;> cases s'
  · rw [if_neg (by simp), if_neg (by simp)]
    go_enter Tryz.func78, Tryz.ntmps78
    go_wp2_with fail
    refine Calls.mono (compare_any _ _ x.natAbs y.natAbs _ (HS.out.next (by (repeat' first | exact Below.refl _ _ | assumption | (refine below_drewN ?_ _) | (refine Below.drew ?_) | (refine Below.alloc ?_ ?_ _) | (refine Below.setCell ?_ ?_ _) | (simp; done) | (simp; omega) | omega))) (HS'.out.next (by (repeat' first | exact Below.refl _ _ | assumption | (refine below_drewN ?_ _) | (refine Below.drew ?_) | (refine Below.alloc ?_ ?_ _) | (refine Below.setCell ?_ ?_ _) | (simp; done) | (simp; omega) | omega))) lx ly) ?_
    rintro e w2 ⟨rfl, hb⟩
    have HB := Lib.hid hb
    clear hb
    go_wp2_with fail
    go_ret
    exact ⟨rfl, by (repeat' first | exact Below.refl _ _ | assumption | (refine Below.andThen ?_ HB.out) | (exact HB.out.size) | (refine below_drewN ?_ _) | (refine Below.drew ?_) | (refine Below.alloc ?_ ?_ _) | (refine Below.setCell ?_ ?_ _) | (simp; done) | (simp; omega) | omega)⟩
  · rw [if_neg (by simp), if_pos rfl]
    go_enter Tryz.func78, Tryz.ntmps78
    go_wp2_with fail
    go_ret
    exact ⟨rfl, by (repeat' first | exact Below.refl _ _ | assumption | (refine below_drewN ?_ _) | (refine Below.drew ?_) | (refine Below.alloc ?_ ?_ _) | (refine Below.setCell ?_ ?_ _) | (simp; done) | (simp; omega) | omega)⟩
  · rw [if_pos rfl, if_neg (by simp)]
    go_enter Tryz.func78, Tryz.ntmps78
    go_wp2_with fail
    go_ret
    exact ⟨rfl, by (repeat' first | exact Below.refl _ _ | assumption | (refine below_drewN ?_ _) | (refine Below.drew ?_) | (refine Below.alloc ?_ ?_ _) | (refine Below.setCell ?_ ?_ _) | (simp; done) | (simp; omega) | omega)⟩
  · rw [if_pos rfl, if_pos rfl]
    go_enter Tryz.func78, Tryz.ntmps78
    go_wp2_with fail
    refine Calls.mono (compare_any _ _ y.natAbs x.natAbs _ (HS'.out.next (by (repeat' first | exact Below.refl _ _ | assumption | (refine below_drewN ?_ _) | (refine Below.drew ?_) | (refine Below.alloc ?_ ?_ _) | (refine Below.setCell ?_ ?_ _) | (simp; done) | (simp; omega) | omega))) (HS.out.next (by (repeat' first | exact Below.refl _ _ | assumption | (refine below_drewN ?_ _) | (refine Below.drew ?_) | (refine Below.alloc ?_ ?_ _) | (refine Below.setCell ?_ ?_ _) | (simp; done) | (simp; omega) | omega))) ly lx) ?_
    rintro e w2 ⟨rfl, hb⟩
    have HB := Lib.hid hb
    clear hb
    go_wp2_with fail
    go_ret
    exact ⟨rfl, by (repeat' first | exact Below.refl _ _ | assumption | (refine Below.andThen ?_ HB.out) | (exact HB.out.size) | (refine below_drewN ?_ _) | (refine Below.drew ?_) | (refine Below.alloc ?_ ?_ _) | (refine Below.setCell ?_ ?_ _) | (simp; done) | (simp; omega) | omega)⟩

theorem txt_neg {z : Int} (h : In.neg z = true) : (⟨#[45]⟩ : ByteArray) ++ decB z.natAbs = In.txt z := by
  apply ba_ext
  rw [ba_append, decB_list, In.txt_list]
  unfold In.neg at h
  unfold In.txtL Lib.itoa
  rw [if_pos (by simpa using h)]
  rfl
theorem txt_pos {z : Int} (h : In.neg z = false) : decB z.natAbs = In.txt z := by
  apply ba_ext
  rw [decB_list, In.txt_list]
  unfold In.neg at h
  unfold In.txtL Lib.itoa
  rw [if_neg (by simpa using h)]
  congr 1
  have : ¬ z < 0 := by simpa using h
  omega
theorem decB_groups {n k : Nat} (h : (In.gs n).length ≤ k) (hk : 1 ≤ k) : (decB n).size ≤ 4 * k := by
  refine decB_lt (by omega) ?_
  rw [Nat.pow_mul]
  exact Nat.lt_of_lt_of_le (In.gs_lt_pow n) (Nat.pow_le_pow_right (by decide) h)
theorem decB_fit (z : Int) : (decB z.natAbs).size ≤ 200 ↔ In.Fit z := by rw [decB_size]; exact In.dec_len_le (by decide)
set_option maxRecDepth 100000 in
set_option maxHeartbeats 1000000 in
theorem printZ_any (u : Value) (z : Int) (w : World) (hu : NumV w u z) (lz : (In.gs z.natAbs).length ≤ 700) (ht : TabI w) :
    Calls Tryz.prog 77 #[u] w fun e w' => e = .returned (.tuple #[.string (In.fit z).1, .int .i64 (In.fit z).2]) ∧ Below w.heap.size w w' := by
  obtain ⟨o, L, c, s, rfl, hs, -, hsn⟩ := hu.form
  have hlast := decB_fit z
  have hle : (decB z.natAbs).size ≤ 2800 := Nat.le_trans (decB_groups lz (by decide)) (by decide)
  have HP := Lib.hid (fun (W : World) (h : Below w.heap.size w W) => print_nat (.slice o L c) z.natAbs W (hs.next h) lz (TabI.next ht h))
  have HSN := Lib.hid hsn
  clear hs hu ht hsn
  have C : ∀ S E, (In.fit z) = (S, E) → ((decB z.natAbs).size ≤ 200 → S = (if s = true then (⟨#[45]⟩ : ByteArray) ++ decB z.natAbs else decB z.natAbs) ∧ E = 0) := by
    intro S E hSE h
    rw [In.fit_pos (hlast.1 h)] at hSE
    obtain ⟨rfl, rfl⟩ := Prod.mk.inj hSE
    refine ⟨?_, rfl⟩
    cases s
    · rw [if_neg (by simp)]; exact (txt_pos HSN.out).symm
    · rw [if_pos rfl]; exact (txt_neg HSN.out).symm
  by_cases hf : (decB z.natAbs).size ≤ 200
  · obtain ⟨e1, e2⟩ := C (In.fit z).1 (In.fit z).2 rfl hf
    rw [e1, e2]
    clear C e1 e2 hlast hle
    generalize decB z.natAbs = D at *
    cases s
    · rw [if_neg (by simp)]
      go_enter Tryz.func77, Tryz.ntmps77
      go_wp2_with fail
      refine Calls.mono (HP.out _ (by (repeat' first | exact Below.refl _ _ | assumption | (refine below_drewN ?_ _) | (refine Below.drew ?_) | (refine Below.alloc ?_ ?_ _) | (refine Below.setCell ?_ ?_ _) | (simp; done) | (simp; omega) | omega))) ?_
      rintro e w2 ⟨rfl, hb⟩
      obtain ⟨hc2, hf2, hz2⟩ := after (B := w.heap.size) 1 hb (by first | assumption | (simp; done) | (simp; omega) | omega | (have := HS.out; omega)); have HB2 := Lib.hid hb; clear hb
      go_wp2_with fail
      go_ret2
      exact ⟨rfl, by (repeat' first | exact Below.refl _ _ | assumption | (refine Below.andThen ?_ HB2.out) | (exact HB2.out.size) | (refine below_drewN ?_ _) | (refine Below.drew ?_) | (refine Below.alloc ?_ ?_ _) | (refine Below.setCell ?_ ?_ _) | (simp; done) | (simp; omega) | omega)⟩
    · rw [if_pos rfl]
      have m2 : ¬ 9223372036854775807 < 1 + (1 + D.size) := by omega
      go_enter Tryz.func77, Tryz.ntmps77
      go_wp2_with fail
      refine Calls.mono (HP.out _ (by (repeat' first | exact Below.refl _ _ | assumption | (refine below_drewN ?_ _) | (refine Below.drew ?_) | (refine Below.alloc ?_ ?_ _) | (refine Below.setCell ?_ ?_ _) | (simp; done) | (simp; omega) | omega))) ?_
      rintro e w2 ⟨rfl, hb⟩
      obtain ⟨hc2, hf2, hz2⟩ := after (B := w.heap.size) 1 hb (by first | assumption | (simp; done) | (simp; omega) | omega | (have := HS.out; omega)); have HB2 := Lib.hid hb; clear hb
      go_wp2_with fail
      go_ret2
      exact ⟨rfl, by (repeat' first | exact Below.refl _ _ | assumption | (refine Below.andThen ?_ HB2.out) | (exact HB2.out.size) | (refine below_drewN ?_ _) | (refine Below.drew ?_) | (refine Below.alloc ?_ ?_ _) | (refine Below.setCell ?_ ?_ _) | (simp; done) | (simp; omega) | omega)⟩
  · have e := In.fit_neg (fun h => hf (hlast.2 h))
    rw [e]
    clear C e hlast
    generalize decB z.natAbs = D at *
    go_enter Tryz.func77, Tryz.ntmps77
    go_wp2_with fail
    refine Calls.mono (HP.out _ (by (repeat' first | exact Below.refl _ _ | assumption | (refine below_drewN ?_ _) | (refine Below.drew ?_) | (refine Below.alloc ?_ ?_ _) | (refine Below.setCell ?_ ?_ _) | (simp; done) | (simp; omega) | omega))) ?_
    rintro e w2 ⟨rfl, hb⟩
    obtain ⟨hc2, hf2, hz2⟩ := after (B := w.heap.size) 1 hb (by first | assumption | (simp; done) | (simp; omega) | omega | (have := HS.out; omega)); have HB2 := Lib.hid hb; clear hb
    go_wp2_with fail
    go_ret2
    exact ⟨rfl, by (repeat' first | exact Below.refl _ _ | assumption | (refine Below.andThen ?_ HB2.out) | (exact HB2.out.size) | (refine below_drewN ?_ _) | (refine Below.drew ?_) | (refine Below.alloc ?_ ?_ _) | (refine Below.setCell ?_ ?_ _) | (simp; done) | (simp; omega) | omega)⟩
end Go.Proofs.YtlehjmanlccncaaGreatDoor
set_option linter.unusedVariables false
set_option linter.unusedSimpArgs false
namespace Go.Proofs.YtlehjmanlccncaaGreatDoor
open Go.RowKit

set_option maxRecDepth 100000 in
set_option maxHeartbeats 4000000 in
theorem plusZ_any (u v : Value) (x y : Int) (w : World) (hu : NumV w u x) (hv : NumV w v y) (lx : (In.gs x.natAbs).length ≤ 1000) (ly : (In.gs y.natAbs).length ≤ 1000) :
    Calls Tryz.prog 96 #[u, v] w fun e w' => ∃ r, e = .returned r ∧ NumV w' r (x + y) ∧ Below w.heap.size w w' := by
  obtain ⟨o, L, c, s, rfl, hs, -, hsn⟩ := hu.form
  obtain ⟨o', L', c', s', rfl, hs', -, hsn'⟩ := hv.form
  have HS := Lib.hid hs
  have HS' := Lib.hid hs'
  have ex : In.sgn x.natAbs s = x := by rw [← hsn, In.sgn_neg]
  have ey : In.sgn y.natAbs s' = y := by rw [← hsn', In.sgn_neg]
  have HX := Lib.hid (And.intro ex ey)
  clear hs hsn hu hs' hsn' hv ex ey
  go_enter Tryz.func96, Tryz.ntmps96
  go_upto_region 1 with (fail)
  refine wp_named fun w1 hw => ?_
  obtain ⟨b1, hb1⟩ : ∃ x, x = w.heap.size := ⟨_, rfl⟩
  obtain ⟨b2, hb2⟩ : ∃ x, x = w.heap.size + 1 := ⟨_, rfl⟩
  obtain ⟨b3, hb3⟩ : ∃ x, x = w.heap.size + 1 + 1 := ⟨_, rfl⟩
  have R1 : Row w1 b1 91 [.slice o L c, .bool s] ∧ Row w1 b2 91 [.slice o' L' c', .bool s'] ∧ Row w1 b3 91 zeroN ∧ Below w.heap.size w w1 := by
    rw [hw, hb1, hb2, hb3]
    exact boxes2 w _ [.slice o L c, .bool s] [.slice o' L' c', .bool s'] zeroN
  rw [← hb3, ← hb2, ← hb1]
  have HR := Lib.hid R1
  have HE := Lib.hid (show w.heap.size ≤ b1 ∧ w.heap.size ≤ b2 ∧ w.heap.size ≤ b3 ∧ b1 ≠ b2 ∧ b1 ≠ b3 ∧ b2 ≠ b3 from by omega)
  have k0 := (Row.cell R1.1 0).trans (show _ = some (.slice o L c) from rfl)
  have k1 := (Row.cell R1.1 1).trans (show _ = some (.bool s) from rfl)
  have k2 := (Row.cell R1.2.1 0).trans (show _ = some (.slice o' L' c') from rfl)
  have k3 := (Row.cell R1.2.1 1).trans (show _ = some (.bool s') from rfl)
  clear hw R1 hb1 hb2 hb3
  by_cases hss : s = s'
  · subst hss
    have HZ := Lib.hid (show In.sgn (x.natAbs + y.natAbs) s = x + y from by rw [← In.sgn_plus, HX.out.1, HX.out.2])
    have h00 : Below w1.heap.size w1 w1.drew := (Below.refl _ _).drew
    have CT := Lib.hid (plus_any (.slice o L c) (.slice o' L' c') x.natAbs y.natAbs w1.drew (HS.out.next (HR.out.2.2.2.drew)) (HS'.out.next (HR.out.2.2.2.drew)) lx ly)
    go_upto_region 2 with (fail)
    have m0 : w1.drew.cell? ⟨b1, 0, none⟩ = some (.slice o L c) := k0
    have m1 : w1.drew.cell? ⟨b1, 1, none⟩ = some (.bool s) := k1
    have m2 : w1.drew.cell? ⟨b2, 0, none⟩ = some (.slice o' L' c') := k2
    clear k0 k1 k2 k3
    go_region_law (first
      | (go_simp; go_at_call 103; with_reducible refine Calls.mono CT.out ?_; rintro e wa ⟨r1, rfl, hn1, hb1⟩; have HA := Lib.hid (And.intro hn1 (Below.andThen h00 hb1)); have k4 := (Row.cell (HR.out.1.next HA.out.2) 1).trans (show _ = some (.bool s) from rfl); clear hn1 hb1)
      | (go_simp; go_at_call 93; with_reducible refine Calls.mono (signed_any r1 (x.natAbs + y.natAbs) s _ HA.out.1) ?_; rintro e wb ⟨r2, rfl, hn2, hb2⟩; have hB := Below.andThen HA.out.2 hb2; have hR2 := HR.out.2.2.1.next hB; have k6 := (Row.cell hR2 0).trans (show _ = some (.slice none 0 0) from rfl); have k7 := (Row.cell hR2 1).trans (show _ = some (.bool false) from rfl); have f6 := Row.frozen hR2 0; have f7 := Row.frozen hR2 1; rw [HZ.out] at hn2; obtain ⟨o3, L3, c3, s3, rfl, _, _, _⟩ := hn2.form; have HF := Lib.hid (And.intro (num_store hR2 hn2) hB); clear hn2 hb2 hB hR2))
    all_goals (
      go_simp
      go_wp2_with fail
      refine bodyPost_ret (v := .agg #[.slice o3 L3 c3, .bool s3]) (by first | (simp [results, Tryz.results96, go_sem]; done) | simp [results, Tryz.results96, go_sem, *]) rfl ⟨_, rfl, HF.out.1.1, (Below.andThen HR.out.2.2.2 HF.out.2).trans (HF.out.1.2.1.mono HE.out.2.2.1)⟩)
  have d1 : (s == s') = false := by rw [beq_eq_false_iff_ne]; exact hss
  have CC := Lib.hid (compare_any (.slice o L c) (.slice o' L' c') x.natAbs y.natAbs w1 (HS.out.next HR.out.2.2.2) (HS'.out.next HR.out.2.2.2) lx ly)
  have HSS := Lib.hid hss
  clear hss
  by_cases hlt : x.natAbs < y.natAbs
  · have HZ := Lib.hid (show In.sgn (y.natAbs - x.natAbs) s' = x + y from by rw [← In.sgn_less HSS.out hlt, HX.out.1, HX.out.2])
    rw [In.cmpN_lt hlt] at CC
    go_wp2_with fail
    refine Calls.mono CC.out ?_
    rintro e w2 ⟨rfl, hb⟩
    have hR1 := HR.out.1.next hb
    have hR2 := HR.out.2.1.next hb
    have hR3 := HR.out.2.2.1.next hb
    have n0 := (Row.cell hR1 0).trans (show _ = some (.slice o L c) from rfl)
    have n1 := (Row.cell hR1 1).trans (show _ = some (.bool s) from rfl)
    have n2 := (Row.cell hR2 0).trans (show _ = some (.slice o' L' c') from rfl)
    have n3 := (Row.cell hR2 1).trans (show _ = some (.bool s') from rfl)
    have f0 := Row.frozen hR1 0
    have f1 := Row.frozen hR1 1
    have f2 := Row.frozen hR2 0
    have f3 := Row.frozen hR2 1
    have HB2 := Lib.hid (And.intro hR1 (And.intro hR2 (And.intro hR3 (Below.andThen HR.out.2.2.2 hb))))
    have hne := HE.out.2.2.2.1
    clear hb hR1 hR2 hR3 k0 k1 k2 k3 CC
    go_upto_region 5 with (fail)
    refine wp_named fun w3 hw => ?_
    have K : Row w3 b1 91 [.slice o' L' c', .bool s'] ∧ Row w3 b2 91 [.slice o L c, .bool s] ∧ Row w3 b3 91 zeroN ∧ Below w.heap.size w w3 ∧ NSl w3 (.slice o' L' c') y.natAbs ∧ NSl w3 (.slice o L c) x.natAbs := by
      obtain ⟨q1, q2, q3, q4⟩ := HB2.out
      obtain ⟨e1, e2, e3, e4, e5, e6⟩ := HE.out
      rw [hw]
      have p1 := q1.set 0 (.slice o' L' c')
      have p2 := p1.set 1 (.bool s')
      have t1 := (q2.other (Ne.symm e4) 0 (.slice o' L' c')).other (Ne.symm e4) 1 (.bool s')
      have t2 := t1.set 0 (.slice o L c)
      exact ⟨(p2.other e4 0 _).other e4 1 _, t2.set 1 _, (((q3.other (Ne.symm e5) 0 _).other (Ne.symm e5) 1 _).other (Ne.symm e6) 0 _).other (Ne.symm e6) 1 _,
        ((((q4.setCell (p := ⟨b1, 0, none⟩) e1 _).setCell (p := ⟨b1, 1, none⟩) e1 _).setCell (p := ⟨b2, 0, none⟩) e2 _).setCell (p := ⟨b2, 1, none⟩) e2 _),
        NSl.store t2 (NSl.store t1 (NSl.store p1 (NSl.store q1 (HS'.out.next q4)))), NSl.store t2 (NSl.store t1 (NSl.store p1 (NSl.store q1 (HS.out.next q4))))⟩
    have KR := Lib.hid (And.intro K.1 (And.intro K.2.1 (And.intro K.2.2.1 K.2.2.2.1)))
    have KN := Lib.hid (And.intro K.2.2.2.2.1 (And.intro K.2.2.2.2.2 (Nat.le_of_lt hlt)))
    have KZ := HZ
    replace HE := Lib.hid HE.out.2.2.1
    clear hw K n0 n1 n2 n3 f0 f1 f2 f3 HB2 hne hlt
    have h00 : Below w3.heap.size w3 w3.drew := (Below.refl _ _).drew
    have m0 : w3.drew.cell? ⟨b1, 0, none⟩ = some (.slice o' L' c') := Row.cell KR.out.1 0
    have m1 : w3.drew.cell? ⟨b1, 1, none⟩ = some (.bool s') := Row.cell KR.out.1 1
    have m2 : w3.drew.cell? ⟨b2, 0, none⟩ = some (.slice o L c) := Row.cell KR.out.2.1 0
    have m3 : w3.drew.cell? ⟨b2, 1, none⟩ = some (.bool s) := Row.cell KR.out.2.1 1
    have CT := Lib.hid (minus_any (.slice o' L' c') (.slice o L c) y.natAbs x.natAbs w3.drew (KN.out.1.next h00) (KN.out.2.1.next h00) ly KN.out.2.2)
    go_region_law (first
      | (go_simp; go_at_call 104; with_reducible refine Calls.mono CT.out ?_; rintro e wa ⟨r1, rfl, hn1, hb1⟩; have HA := Lib.hid (And.intro hn1 (Below.andThen h00 hb1)); have k4 := (Row.cell (KR.out.1.next HA.out.2) 1).trans (show _ = some (.bool s') from rfl); clear hn1 hb1)
      | (go_simp; go_at_call 93; with_reducible refine Calls.mono (signed_any r1 (y.natAbs - x.natAbs) s' _ HA.out.1) ?_; rintro e wb ⟨r2, rfl, hn2, hb2⟩; have hB := Below.andThen HA.out.2 hb2; have hR2 := KR.out.2.2.1.next hB; have k6 := (Row.cell hR2 0).trans (show _ = some (.slice none 0 0) from rfl); have k7 := (Row.cell hR2 1).trans (show _ = some (.bool false) from rfl); have f6 := Row.frozen hR2 0; have f7 := Row.frozen hR2 1; rw [KZ.out] at hn2; obtain ⟨o3, L3, c3, s3, rfl, _, _, _⟩ := hn2.form; have HF := Lib.hid (And.intro (num_store hR2 hn2) hB); clear hn2 hb2 hB hR2))
    all_goals (
      go_simp
      go_wp2_with fail
      refine bodyPost_ret (v := .agg #[.slice o3 L3 c3, .bool s3]) (by first | (simp [results, Tryz.results96, go_sem]; done) | simp [results, Tryz.results96, go_sem, *]) rfl ⟨_, rfl, HF.out.1.1, (Below.trans KR.out.2.2.2 (HF.out.2.mono (by have := KR.out.2.2.2.size; omega))).trans (HF.out.1.2.1.mono (by have := HE.out; omega))⟩)
  · have hge : y.natAbs ≤ x.natAbs := by omega
    have HZ := Lib.hid (show In.sgn (x.natAbs - y.natAbs) s = x + y from by rw [← In.sgn_more HSS.out hge, HX.out.1, HX.out.2])
    have d2 : decide (In.cmpN x.natAbs y.natAbs < 0) = false := by rw [cmpN_neg, decide_eq_false hlt]
    go_wp2_with fail
    refine Calls.mono CC.out ?_
    rintro e w3 ⟨rfl, hb⟩
    have KR := Lib.hid (And.intro (HR.out.1.next hb) (And.intro (HR.out.2.1.next hb) (And.intro (HR.out.2.2.1.next hb) (Below.andThen HR.out.2.2.2 hb))))
    have KN := Lib.hid (And.intro (HS.out.next KR.out.2.2.2) (And.intro (HS'.out.next KR.out.2.2.2) hge))
    have KZ := HZ
    replace HE := Lib.hid HE.out.2.2.1
    clear hb k0 k1 k2 k3 CC hlt
    go_upto_region 5 with (fail)
    have h00 : Below w3.heap.size w3 w3.drew := (Below.refl _ _).drew
    have m0 : w3.drew.cell? ⟨b1, 0, none⟩ = some (.slice o L c) := Row.cell KR.out.1 0
    have m1 : w3.drew.cell? ⟨b1, 1, none⟩ = some (.bool s) := Row.cell KR.out.1 1
    have m2 : w3.drew.cell? ⟨b2, 0, none⟩ = some (.slice o' L' c') := Row.cell KR.out.2.1 0
    have m3 : w3.drew.cell? ⟨b2, 1, none⟩ = some (.bool s') := Row.cell KR.out.2.1 1
    have CT := Lib.hid (minus_any (.slice o L c) (.slice o' L' c') x.natAbs y.natAbs w3.drew (KN.out.1.next h00) (KN.out.2.1.next h00) lx KN.out.2.2)
    go_region_law (first
      | (go_simp; go_at_call 104; with_reducible refine Calls.mono CT.out ?_; rintro e wa ⟨r1, rfl, hn1, hb1⟩; have HA := Lib.hid (And.intro hn1 (Below.andThen h00 hb1)); have k4 := (Row.cell (KR.out.1.next HA.out.2) 1).trans (show _ = some (.bool s) from rfl); clear hn1 hb1)
      | (go_simp; go_at_call 93; with_reducible refine Calls.mono (signed_any r1 (x.natAbs - y.natAbs) s _ HA.out.1) ?_; rintro e wb ⟨r2, rfl, hn2, hb2⟩; have hB := Below.andThen HA.out.2 hb2; have hR2 := KR.out.2.2.1.next hB; have k6 := (Row.cell hR2 0).trans (show _ = some (.slice none 0 0) from rfl); have k7 := (Row.cell hR2 1).trans (show _ = some (.bool false) from rfl); have f6 := Row.frozen hR2 0; have f7 := Row.frozen hR2 1; rw [KZ.out] at hn2; obtain ⟨o3, L3, c3, s3, rfl, _, _, _⟩ := hn2.form; have HF := Lib.hid (And.intro (num_store hR2 hn2) hB); clear hn2 hb2 hB hR2))
    all_goals (
      go_simp
      go_wp2_with fail
      refine bodyPost_ret (v := .agg #[.slice o3 L3 c3, .bool s3]) (by first | (simp [results, Tryz.results96, go_sem]; done) | simp [results, Tryz.results96, go_sem, *]) rfl ⟨_, rfl, HF.out.1.1, (Below.trans KR.out.2.2.2 (HF.out.2.mono (by have := KR.out.2.2.2.size; omega))).trans (HF.out.1.2.1.mono (by have := HE.out; omega))⟩)
end Go.Proofs.YtlehjmanlccncaaGreatDoor
