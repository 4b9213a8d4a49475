/- Numbers with signs: parse, compare, print. -/
import Derived.Test.YtjhnfejlkljkjaaGreatDoorIntS
namespace Go.Proofs.YtjhnfejlkljkjaaGreatDoor
open Go.RowKit

set_option maxRecDepth 100000 in
set_option maxHeartbeats 1000000 in
theorem parse_any (t : ByteArray) (w : World) (hv : In.validL t.data.toList = true) :
    Calls Tryz.prog 46 #[.string t] w fun e w' => ∃ r, e = .returned r ∧ NumV w' r (In.valL t.data.toList) ∧ Below w.heap.size w w' := by
  obtain ⟨hd1, hd2⟩ := In.v_digs hv
  obtain ⟨hn1, hn2⟩ := In.v_neg hv
  obtain ⟨z, hz⟩ : ∃ z, z = In.valL t.data.toList := ⟨_, rfl⟩
  rw [← hz] at hn1 hn2 ⊢
  obtain ⟨d, hd⟩ : ∃ d : ByteArray, d = ⟨(In.dl t.data.toList).toArray⟩ := ⟨_, rfl⟩
  have hdl : d.data.toList = In.dl t.data.toList := by rw [hd]
  have CD := Lib.hid (fun W => dash_any t W)
  rw [← hd] at CD
  have CP := Lib.hid (fun W => parseN_any d W (by unfold Digs; rw [hdl]; exact hd1) (by rw [Lib.size_eq, hdl]; omega))
  rw [hdl, ← hn2] at CP
  have hne : (d.toList == t.toList) = !In.neg z := by
    rw [ByteArray.toList_eq, ByteArray.toList_eq, hdl, hn1]
    unfold In.dl
    by_cases h : t.data.toList.head? = some 45
    · rw [if_pos h, decide_eq_true h]
      rw [Bool.not_true, beq_eq_false_iff_ne]
      intro e
      have := congrArg List.length e
      rw [List.length_tail] at this
      cases hq : t.data.toList with
      | nil => rw [hq] at h; cases h
      | cons x r => rw [hq] at this; simp at this
    · rw [if_neg h, decide_eq_false h]
      simp
  generalize hs : In.neg z = s at *
  have HS := Lib.hid hs
  have hne2 : (d.toList != t.toList) = s := by rw [bne, hne]; simp
  clear hd1 hd2 hn1 hn2 hz hd hdl hv hs
  go_enter Tryz.func46, Tryz.ntmps46
  go_upto_region 2 with (go_at_call 51; refine Calls.mono (CD.out _) ?_; rintro e w' ⟨rfl, rfl⟩)
  refine wp_named fun w1 hw => ?_
  obtain ⟨b1, hb1⟩ : ∃ x, x = w.heap.size := ⟨_, rfl⟩
  have R1 : Row w1 b1 47 zeroN ∧ Below w.heap.size w w1 := by
    rw [hw, hb1]
    exact ⟨Row.new w _ zeroN, (Below.refl _ _).alloc (Nat.le_refl _) _⟩
  rw [← hb1]
  have HR := Lib.hid R1
  have HE := Lib.hid hb1
  clear hw R1 hb1
  go_wp2_with fail
  refine Calls.mono (CP.out _) ?_
  rintro e w2 ⟨r, rfl, hn, hb⟩
  have hR2 := HR.out.1.next hb
  have k2 := (Row.cell hR2 0).trans (show _ = some (.slice none 0 0) from rfl)
  have k3 := (Row.cell hR2 1).trans (show _ = some (.bool false) from rfl)
  have f2 := Row.frozen hR2 0
  have f3 := Row.frozen hR2 1
  have hn0 := hn
  obtain ⟨o, c, rfl, _⟩ := hn.ex
  generalize (In.gs z.natAbs).length = L at *
  have HF := Lib.hid (And.intro (num_store hR2 (NumV.mk' hn0 HS.out)) (Below.andThen HR.out.2 hb))
  clear hn hb hR2 hn0
  go_wp2_with fail
  refine bodyPost_ret (v := .agg #[.slice o L c, .bool s]) (by first | (simp [results, Tryz.results46, go_sem]; done) | simp [results, Tryz.results46, go_sem, *]) rfl ⟨_, rfl, HF.out.1.1, HF.out.2.trans (HF.out.1.2.1.mono (by have := HE.out; omega))⟩

theorem cmpZ_sgn (x y : Int) : In.cmpZ x y = if In.neg x = true then (if In.neg y = true then In.cmpN y.natAbs x.natAbs else -1) else if In.neg y = true then 1 else In.cmpN x.natAbs y.natAbs := by
  unfold In.cmpZ In.neg In.cmpN
  by_cases hx : x < 0 <;> by_cases hy : y < 0 <;> simp [hx, hy] <;> (repeat' split) <;> omega
set_option maxRecDepth 100000 in
set_option maxHeartbeats 1000000 in
theorem compareZ_any (u v : Value) (x y : Int) (w : World) (hu : NumV w u x) (hv : NumV w v y) (lx : (In.gs x.natAbs).length ≤ 1000) (ly : (In.gs y.natAbs).length ≤ 1000) :
    Calls Tryz.prog 52 #[u, v] w fun e w' => e = .returned (.int .i64 (In.cmpZ x y)) ∧ Below w.heap.size w w' := by
  obtain ⟨o, L, c, s, rfl, hs, -, hsn⟩ := hu.form
  obtain ⟨o', L', c', s', rfl, hs', -, hsn'⟩ := hv.form
  have HS := Lib.hid hs
  have HS' := Lib.hid hs'
  have hZ := cmpZ_sgn x y
  rw [hsn, hsn'] at hZ
  rw [hZ]
  clear hs hsn hu hs' hsn' hv hZ
  cases s <;> cases s'
  · rw [if_neg (by simp), if_neg (by simp)]
    go_enter Tryz.func52, Tryz.ntmps52
    go_wp2_with fail
    refine Calls.mono (compare_any _ _ x.natAbs y.natAbs _ (HS.out.next (by (repeat' first | exact Below.refl _ _ | assumption | (refine below_drewN ?_ _) | (refine Below.drew ?_) | (refine Below.alloc ?_ ?_ _) | (refine Below.setCell ?_ ?_ _) | (simp; done) | (simp; omega) | omega))) (HS'.out.next (by (repeat' first | exact Below.refl _ _ | assumption | (refine below_drewN ?_ _) | (refine Below.drew ?_) | (refine Below.alloc ?_ ?_ _) | (refine Below.setCell ?_ ?_ _) | (simp; done) | (simp; omega) | omega))) lx ly) ?_
    rintro e w2 ⟨rfl, hb⟩
    have HB := Lib.hid hb
    clear hb
    go_wp2_with fail
    go_ret
    exact ⟨rfl, by (repeat' first | exact Below.refl _ _ | assumption | (refine Below.andThen ?_ HB.out) | (exact HB.out.size) | (refine below_drewN ?_ _) | (refine Below.drew ?_) | (refine Below.alloc ?_ ?_ _) | (refine Below.setCell ?_ ?_ _) | (simp; done) | (simp; omega) | omega)⟩
  · rw [if_neg (by simp), if_pos rfl]
    go_enter Tryz.func52, Tryz.ntmps52
    go_wp2_with fail
    go_ret
    exact ⟨rfl, by (repeat' first | exact Below.refl _ _ | assumption | (refine below_drewN ?_ _) | (refine Below.drew ?_) | (refine Below.alloc ?_ ?_ _) | (refine Below.setCell ?_ ?_ _) | (simp; done) | (simp; omega) | omega)⟩
  · rw [if_pos rfl, if_neg (by simp)]
    go_enter Tryz.func52, Tryz.ntmps52
    go_wp2_with fail
    go_ret
    exact ⟨rfl, by (repeat' first | exact Below.refl _ _ | assumption | (refine below_drewN ?_ _) | (refine Below.drew ?_) | (refine Below.alloc ?_ ?_ _) | (refine Below.setCell ?_ ?_ _) | (simp; done) | (simp; omega) | omega)⟩
  · rw [if_pos rfl, if_pos rfl]
    go_enter Tryz.func52, Tryz.ntmps52
    go_wp2_with fail
    refine Calls.mono (compare_any _ _ y.natAbs x.natAbs _ (HS'.out.next (by (repeat' first | exact Below.refl _ _ | assumption | (refine below_drewN ?_ _) | (refine Below.drew ?_) | (refine Below.alloc ?_ ?_ _) | (refine Below.setCell ?_ ?_ _) | (simp; done) | (simp; omega) | omega))) (HS.out.next (by (repeat' first | exact Below.refl _ _ | assumption | (refine below_drewN ?_ _) | (refine Below.drew ?_) | (refine Below.alloc ?_ ?_ _) | (refine Below.setCell ?_ ?_ _) | (simp; done) | (simp; omega) | omega))) ly lx) ?_
    rintro e w2 ⟨rfl, hb⟩
    have HB := Lib.hid hb
    clear hb
    go_wp2_with fail
    go_ret
    exact ⟨rfl, by (repeat' first | exact Below.refl _ _ | assumption | (refine Below.andThen ?_ HB.out) | (exact HB.out.size) | (refine below_drewN ?_ _) | (refine Below.drew ?_) | (refine Below.alloc ?_ ?_ _) | (refine Below.setCell ?_ ?_ _) | (simp; done) | (simp; omega) | omega)⟩

theorem txt_neg {z : Int} (h : In.neg z = true) : (⟨#[45]⟩ : ByteArray) ++ decB z.natAbs = In.txt z := by
  apply ba_ext
  rw [ba_append, decB_list, In.txt_list]
  unfold In.neg at h
  unfold In.txtL Lib.itoa
  rw [if_pos (by simpa using h)]
  rfl
theorem txt_pos {z : Int} (h : In.neg z = false) : decB z.natAbs = In.txt z := by
  apply ba_ext
  rw [decB_list, In.txt_list]
  unfold In.neg at h
  unfold In.txtL Lib.itoa
  rw [if_neg (by simpa using h)]
  congr 1
  have : ¬ z < 0 := by simpa using h
  omega
theorem decB_groups {n k : Nat} (h : (In.gs n).length ≤ k) (hk : 1 ≤ k) : (decB n).size ≤ 4 * k := by
  refine decB_lt (by omega) ?_
  rw [Nat.pow_mul]
  exact Nat.lt_of_lt_of_le (In.gs_lt_pow n) (Nat.pow_le_pow_right (by decide) h)
theorem decB_fit (z : Int) : (decB z.natAbs).size ≤ 200 ↔ In.Fit z := by rw [decB_size]; exact In.dec_len_le (by decide)
set_option maxRecDepth 100000 in
set_option maxHeartbeats 1000000 in
theorem printZ_any (u : Value) (z : Int) (w : World) (hu : NumV w u z) (lz : (In.gs z.natAbs).length ≤ 700) (ht : TabI w) :
    Calls Tryz.prog 39 #[u] w fun e w' => e = .returned (.tuple #[.string (In.fit z).1, .int .i64 (In.fit z).2]) ∧ Below w.heap.size w w' := by
  obtain ⟨o, L, c, s, rfl, hs, -, hsn⟩ := hu.form
  have hlast := decB_fit z
  have hle : (decB z.natAbs).size ≤ 2800 := Nat.le_trans (decB_groups lz (by decide)) (by decide)
  have HP := Lib.hid (fun (W : World) (h : Below w.heap.size w W) => print_nat (.slice o L c) z.natAbs W (hs.next h) lz (TabI.next ht h))
  have HSN := Lib.hid hsn
  clear hs hu ht hsn
  have C : ∀ S E, (In.fit z) = (S, E) → ((decB z.natAbs).size ≤ 200 → S = (if s = true then (⟨#[45]⟩ : ByteArray) ++ decB z.natAbs else decB z.natAbs) ∧ E = 0) := by
    intro S E hSE h
    rw [In.fit_pos (hlast.1 h)] at hSE
    obtain ⟨rfl, rfl⟩ := Prod.mk.inj hSE
    refine ⟨?_, rfl⟩
    cases s
    · rw [if_neg (by simp)]; exact (txt_pos HSN.out).symm
    · rw [if_pos rfl]; exact (txt_neg HSN.out).symm
  by_cases hf : (decB z.natAbs).size ≤ 200
  · obtain ⟨e1, e2⟩ := C (In.fit z).1 (In.fit z).2 rfl hf
    rw [e1, e2]
    clear C e1 e2 hlast hle
    generalize decB z.natAbs = D at *
    cases s
    · rw [if_neg (by simp)]
      go_enter Tryz.func39, Tryz.ntmps39
      go_wp2_with fail
      refine Calls.mono (HP.out _ (by (repeat' first | exact Below.refl _ _ | assumption | (refine below_drewN ?_ _) | (refine Below.drew ?_) | (refine Below.alloc ?_ ?_ _) | (refine Below.setCell ?_ ?_ _) | (simp; done) | (simp; omega) | omega))) ?_
      rintro e w2 ⟨rfl, hb⟩
      obtain ⟨hc2, hf2, hz2⟩ := after (B := w.heap.size) 1 hb (by first | assumption | (simp; done) | (simp; omega) | omega | (have := HS.out; omega)); have HB2 := Lib.hid hb; clear hb
      go_wp2_with fail
      go_ret2
      exact ⟨rfl, by (repeat' first | exact Below.refl _ _ | assumption | (refine Below.andThen ?_ HB2.out) | (exact HB2.out.size) | (refine below_drewN ?_ _) | (refine Below.drew ?_) | (refine Below.alloc ?_ ?_ _) | (refine Below.setCell ?_ ?_ _) | (simp; done) | (simp; omega) | omega)⟩
    · rw [if_pos rfl]
      have m2 : ¬ 9223372036854775807 < 1 + (1 + D.size) := by omega
      go_enter Tryz.func39, Tryz.ntmps39
      go_wp2_with fail
      refine Calls.mono (HP.out _ (by (repeat' first | exact Below.refl _ _ | assumption | (refine below_drewN ?_ _) | (refine Below.drew ?_) | (refine Below.alloc ?_ ?_ _) | (refine Below.setCell ?_ ?_ _) | (simp; done) | (simp; omega) | omega))) ?_
      rintro e w2 ⟨rfl, hb⟩
      obtain ⟨hc2, hf2, hz2⟩ := after (B := w.heap.size) 1 hb (by first | assumption | (simp; done) | (simp; omega) | omega | (have := HS.out; omega)); have HB2 := Lib.hid hb; clear hb
      go_wp2_with fail
      go_ret2
      exact ⟨rfl, by (repeat' first | exact Below.refl _ _ | assumption | (refine Below.andThen ?_ HB2.out) | (exact HB2.out.size) | (refine below_drewN ?_ _) | (refine Below.drew ?_) | (refine Below.alloc ?_ ?_ _) | (refine Below.setCell ?_ ?_ _) | (simp; done) | (simp; omega) | omega)⟩
  · have e := In.fit_neg (fun h => hf (hlast.2 h))
    rw [e]
    clear C e hlast
    generalize decB z.natAbs = D at *
    go_enter Tryz.func39, Tryz.ntmps39
    go_wp2_with fail
    refine Calls.mono (HP.out _ (by (repeat' first | exact Below.refl _ _ | assumption | (refine below_drewN ?_ _) | (refine Below.drew ?_) | (refine Below.alloc ?_ ?_ _) | (refine Below.setCell ?_ ?_ _) | (simp; done) | (simp; omega) | omega))) ?_
    rintro e w2 ⟨rfl, hb⟩
    obtain ⟨hc2, hf2, hz2⟩ := after (B := w.heap.size) 1 hb (by first | assumption | (simp; done) | (simp; omega) | omega | (have := HS.out; omega)); have HB2 := Lib.hid hb; clear hb
    go_wp2_with fail
    go_ret2
    exact ⟨rfl, by (repeat' first | exact Below.refl _ _ | assumption | (refine Below.andThen ?_ HB2.out) | (exact HB2.out.size) | (refine below_drewN ?_ _) | (refine Below.drew ?_) | (refine Below.alloc ?_ ?_ _) | (refine Below.setCell ?_ ?_ _) | (simp; done) | (simp; omega) | omega)⟩
end Go.Proofs.YtjhnfejlkljkjaaGreatDoor
