/- Natural numbers in groups: the root. -/
import Derived.Test.YtjhnfejlkljkjaaGreatDoorIntL
import Derived.Deep.CutBlock
namespace Go.Proofs.YtjhnfejlkljkjaaGreatDoor
open Go.RowKit

theorem root_start {a L : Nat} (h : a / 10000 ^ L = 0) : a < (10000 ^ ((L + 1) / 2)) * (10000 ^ ((L + 1) / 2)) := by
  have h1 : a < 10000 ^ L := (Nat.div_eq_zero_iff_lt (Nat.pow_pos (by decide))).1 h
  rw [← Nat.pow_add]
  exact Nat.lt_of_lt_of_le h1 (Nat.pow_le_pow_right (by decide) (by omega))
set_option maxRecDepth 100000 in
set_option maxHeartbeats 4000000 in
theorem root_any (u : Value) (a : Nat) (w : World) (hu : NSl w u a) (la : (In.gs a).length ≤ 700) :
    Calls Tryz.prog 47 #[u] w fun e w' => ∃ r, e = .returned r ∧ NSl w' r (In.sqrtN a) ∧ Below w.heap.size w w' := by
  obtain ⟨o, c, rfl, a1, a2, a3, a4⟩ := hu.ex
  obtain ⟨i0, hi, hz0, hz1, hz2⟩ := info_parts infoInt
  obtain ⟨L, hL⟩ : ∃ L, (In.gs a).length = L := ⟨_, rfl⟩
  rw [hL] at la a1 hu ⊢
  obtain ⟨m, hm⟩ : ∃ m, (L + 1) / 2 = m := ⟨_, rfl⟩
  have hmI : ((L : Int) + 1) / 2 = (m : Int) := by omega
  have hmk := fun (W : World) => run_make_row (P := Tryz.prog) W 45 3 i0 _ 8 Tryz.underlying45 hi hz0 hz1 hz2 rfl m (by omega) (by omega)
  have HU := Lib.hid hu
  have HL := Lib.hid hL
  have HM := Lib.hid hm
  have hm4 : m ≤ 400 := by omega
  clear a4 hL hu hm
  go_enter Tryz.func47, Tryz.ntmps47
  go_upto_region 2 with (fail)
  refine wp_named fun w1 hw => ?_
  obtain ⟨ba, hba⟩ : ∃ x, x = w.heap.size := ⟨_, rfl⟩
  obtain ⟨bR, hbR⟩ : ∃ x, x = w.heap.size + 1 := ⟨_, rfl⟩
  obtain ⟨bx, hbx⟩ : ∃ x, x = w.heap.size + 1 + 1 := ⟨_, rfl⟩
  have R1 : Row w1 ba 45 [.slice o L c] ∧ Row w1 bR 3 ((List.replicate m 0).map natV) ∧ Row w1 bx 45 [.slice (some ⟨bR, 0, none⟩) m m] ∧ Below w.heap.size w w1 := by
    rw [hw, hba, hbR, hbx]
    refine ⟨((Row.new w _ [.slice o L c]).alloc _).alloc _, ?_, ?_, (((Below.refl _ _).alloc (Nat.le_refl _) _).alloc (by simp) _).alloc (by simp; omega) _⟩
    · have := (row_zeros (w.alloc (.cells #[.slice o L c] 45)) m 3).alloc (.cells #[.slice (some ⟨w.heap.size + 1, 0, none⟩) m m] 45)
      rw [World.size_alloc, ← zeros_padL] at this
      rw [List.map_replicate]
      exact this
    · have := Row.new ((w.alloc (.cells #[.slice o L c] 45)).alloc (.cells (Array.replicate m (.int .i64 0)) 3)) 45 [.slice (some ⟨w.heap.size + 1, 0, none⟩) m m]
      rw [World.size_alloc, World.size_alloc] at this
      exact this
  have hs1 : w1.heap.size = w.heap.size + 3 := by rw [hw]; simp
  rw [← hbx, ← hbR, ← hba]
  have HR1 := Lib.hid R1
  have c1 := (Row.cell R1.2.2.1 0).trans (show _ = some (.slice (some ⟨bR, 0, none⟩) m m) from rfl)
  have HE := Lib.hid (And.intro hba (And.intro hbR (And.intro hbx hs1)))
  clear hw R1 hba hbR hbx hmk hs1 hmI
  go_wp2_with fail
  clear c1
  go_loopw [4] (fun pv wr => ∃ (k bi : Nat) (qs : List Nat), pv = .pointer (some ⟨bi, 0, none⟩) ∧ k ≤ m ∧ qs.length = m - k ∧ (∀ x ∈ qs, x < 10000) ∧ (In.nv 10000 qs * 10000 ^ k) * (In.nv 10000 qs * 10000 ^ k) ≤ a ∧ a < (In.nv 10000 qs * 10000 ^ k + 10000 ^ k) * (In.nv 10000 qs * 10000 ^ k + 10000 ^ k) ∧
    Row wr ba 45 [.slice o L c] ∧ Row wr bR 3 ((List.replicate k 0 ++ qs).map natV) ∧ Row wr bx 45 [.slice (some ⟨bR, 0, none⟩) m m] ∧ Row wr bi 3 [.int .i64 ((k : Int) - 1)] ∧ bx < bi ∧ Below w.heap.size w wr) (fun pv wr => match pv with | .pointer (some p) => (intOf ((wr.cell? p).getD (.int .i64 0)) + 1).toNat | _ => 0)
  case atStart =>
    have h1 := root_start (show a / 10000 ^ L = 0 from by rw [← HL.out, In.gs_top])
    rw [HM.out] at h1
    obtain ⟨r1, r2, r3, r4⟩ := HR1.out
    refine ⟨m, _, [], rfl, Nat.le_refl _, by simp, (fun x hx => by cases hx), by simp [In.nv], by simpa [In.nv] using h1, r1.alloc _, ?_, r3.alloc _, Row.new w1 3 [.int .i64 ((m : Int) - 1)], by have := HE.out; omega, r4.alloc (by have := HE.out; omega) _⟩
    rw [List.append_nil]
    exact r2.alloc _
  case round =>
    obtain ⟨k, bi, qs, rfl, hk, hql, hqx, hs1, hs2, hRa, hRR, hRx, hRi, hbi, hB⟩ := hrel
    clear HR1
    have ci := (Row.cell hRi 0).trans (show _ = some (.int .i64 ((k : Int) - 1)) from rfl)
    cases k with
    | zero =>
      rw [Nat.pow_zero, Nat.mul_one] at hs1 hs2
      rw [List.replicate_zero, List.nil_append] at hRR
      rw [show ((0 : Nat) : Int) - 1 = -1 from rfl] at ci
      have hql2 : qs.length = m := by omega
      have CT := Lib.hid (trim_any (some ⟨bR, 0, none⟩) m m qs wr hql2 hqx (Nat.le_refl _) (by omega) (fun h => by cases h) (row_sl hRR))
      rw [← In.sqrtN_is hs1 hs2] at CT
      have HBW := Lib.hid hB
      have c1 := (Row.cell hRx 0).trans (show _ = some (.slice (some ⟨bR, 0, none⟩) m m) from rfl)
      clear hql hqx hs1 hs2 hRa hRR hRx hRi hB hk hql2
      go_wp2_with fail
      refine Calls.mono CT.out ?_
      rintro e wa ⟨q, rfl, hn1, hb1⟩
      have HF := Lib.hid (And.intro hn1 (Below.andThen HBW.out hb1))
      clear hn1 hb1
      go_wp2_with fail
      go_ret
      exact ⟨_, rfl, HF.out⟩
    | succ i =>
      rw [show ((i + 1 : Nat) : Int) - 1 = (i : Int) by omega] at ci hRi
      have h0 : List.replicate (i + 1) 0 ++ qs = rootL i 0 qs := by rw [List.replicate_succ', List.append_assoc]; rfl
      rw [h0] at hRR
      clear h0
      have ci0 := ci
      have HC0 := Lib.hid ci0
      clear ci0
      have HQ := Lib.hid (And.intro hql (And.intro hqx (And.intro hs1 hs2)))
      have HW := Lib.hid (And.intro hRa (And.intro hRR (And.intro hRx (And.intro hRi hB))))
      have hne : ba ≠ bR ∧ bx ≠ bR ∧ bi ≠ bR := by have := HE.out; omega
      have HNE := Lib.hid hne
      have him : i < m := by omega
      clear hql hqx hs1 hs2 hRa hRR hRx hRi hB hne
      go_upto_block 1 with (fail)
      go_cut [] (fun wx => ∃ d, d < 10000 ∧ In.nv 10000 (rootL i d qs) * In.nv 10000 (rootL i d qs) ≤ a ∧ a < (In.nv 10000 (rootL i d qs) + 10000 ^ i) * (In.nv 10000 (rootL i d qs) + 10000 ^ i) ∧
        Row wx ba 45 [.slice o L c] ∧ Row wx bR 3 ((rootL i d qs).map natV) ∧ Row wx bx 45 [.slice (some ⟨bR, 0, none⟩) m m] ∧ Row wx bi 3 [natV i] ∧ Below w.heap.size w wx)
      case first =>
        have CG := Lib.hid (greatest_root #[.pointer (some ⟨bx, 0, none⟩), .pointer (some ⟨bi, 0, none⟩), .pointer (some ⟨ba, 0, none⟩)] 0 9999 (fun d => decide (In.nv 10000 (rootL i d qs) * In.nv 10000 (rootL i d qs) ≤ a))
          (fun W => Below w.heap.size w W ∧ (∃ d0, Row W bR 3 ((rootL i d0 qs).map natV)) ∧ Row W bx 45 [.slice (some ⟨bR, 0, none⟩) m m] ∧ Row W bi 3 [natV i] ∧ Row W ba 45 [.slice o L c]) wr.drew (by decide) (by decide)
          ⟨HW.out.2.2.2.2.drew, ⟨0, HW.out.2.1⟩, HW.out.2.2.1, HW.out.2.2.2.1, HW.out.1⟩
          (fun W W' h h' => ⟨Below.andThen h.1 h', h.2.1.elim fun d0 hd => ⟨d0, hd.next h'⟩, h.2.2.1.next h', h.2.2.2.1.next h', h.2.2.2.2.next h'⟩)
          (fun d W hd hJ hs => by
            obtain ⟨j1, ⟨d0, j2⟩, j3, j4, j5⟩ := hJ
            refine (root1_any o L c a d i m d0 bR bx bi ba qs W (HU.out.next j1) j2 j3 j4 j5 (by rw [rootL_len, HQ.out.1]; omega) hm4 (by omega) HQ.out.2.1 ⟨Ne.symm HNE.out.2.1, Ne.symm HNE.out.2.2, Ne.symm HNE.out.1⟩ (fun b off e h0 => by have := HU.out.lt e h0; have := HE.out; omega) (by rw [HL.out]; omega)).mono ?_
            intro e w' h
            refine ⟨h.1, ⟨(j1.setCell (p := ⟨bR, i, none⟩) (by have := HE.out; show w.heap.size ≤ bR; omega) _).trans (h.2.mono j1.size), ⟨d, ?_⟩, (j3.other HNE.out.2.1 _ _).below h.2 j3.lt, (j4.other HNE.out.2.2 _ _).below h.2 j4.lt, (j5.other HNE.out.1 _ _).below h.2 j5.lt⟩, ?_, ?_⟩
            · have h1 := j2.set i (natV d)
              rw [rootL_set] at h1
              exact h1.below h.2 j2.lt
            · have h1 := h.2.size
              rwa [World.size_setCell] at h1
            · intro b hb1 hb2
              refine (h.2.block b hb2).trans ?_
              show (W.heap.modify bR _)[b]? = _
              have h1 : bR < wr.drew.heap.size := HW.out.2.1.lt
              rw [Array.getElem?_modify, if_neg (by omega)])
          (by
            have h1 := HQ.out.2.2.1
            rw [decide_eq_true_eq, rootL_nv, Nat.zero_mul, Nat.add_zero]
            exact h1)
          (fun x y hxy _ h => by
            rw [decide_eq_true_eq, rootL_nv] at h ⊢
            exact In.root_mono hxy h))
        have c1 := (Row.cell HW.out.2.2.1 0).trans (show _ = some (.slice (some ⟨bR, 0, none⟩) m m) from rfl)
        have c2 : wr.drew.cell? ⟨bx, 0, none⟩ = some (.slice (some ⟨bR, 0, none⟩) m m) := c1
        have c3 : wr.drew.cell? ⟨bi, 0, none⟩ = some (natV i) := ci
        have hX : ∀ d, d ≤ 9999 → decide (In.nv 10000 (rootL i d qs) * In.nv 10000 (rootL i d qs) ≤ a) = true → (d < 9999 → decide (In.nv 10000 (rootL i (d + 1) qs) * In.nv 10000 (rootL i (d + 1) qs) ≤ a) = false) → In.nv 10000 (rootL i d qs) * In.nv 10000 (rootL i d qs) ≤ a ∧ a < (In.nv 10000 (rootL i d qs) + 10000 ^ i) * (In.nv 10000 (rootL i d qs) + 10000 ^ i) := by
          intro d hd h1 h2
          rw [decide_eq_true_eq] at h1
          refine ⟨h1, ?_⟩
          have h3 := HQ.out.2.2.2
          rw [rootL_nv] at h1 ⊢
          refine In.root_next h1 (fun hd9 => ?_) ?_ hd
          · have := h2 hd9
            rw [decide_eq_false_iff_not, rootL_nv] at this
            exact this
          · rw [Nat.mul_comm 10000 (10000 ^ i), ← Nat.pow_succ]
            exact h3
        have HX := Lib.hid hX
        clear hX
        go_upto_region 5 with (fail)
        go_region_law (first
          | (go_simp; go_at_call 62; refine Calls.mono CG.out ?_; rintro e wa ⟨d, rfl, _, hd9, hP1, hP2, hJ⟩; have HD := Lib.hid (HX.out d hd9 hP1 hP2); have HJ := Lib.hid hJ; obtain ⟨d0, hr0⟩ := hJ.2.1; have hrr := Lib.hid hr0; have k1 := (Row.cell hJ.2.2.1 0).trans (show _ = some (.slice (some ⟨bR, 0, none⟩) m m) from rfl); have k2 := (Row.cell hJ.2.2.2.1 0).trans (show _ = some (natV i) from rfl); have k3 := Row.frozen hr0 i; have k4 : wa.cell? ⟨bR, i, none⟩ = some (natV d0) := (by rw [hr0.cell, List.getElem?_map, List.getElem?_append_right (by simp)]; simp); clear hP1 hP2 hJ hr0))
        all_goals (
          go_simp
          go_wp2_with fail
          go_meet
          refine ⟨d, by omega, HD.out.1, HD.out.2, HJ.out.2.2.2.2.other HNE.out.1 _ _, ?_, HJ.out.2.2.1.other HNE.out.2.1 _ _, HJ.out.2.2.2.1.other HNE.out.2.2 _ _, HJ.out.1.setCell (p := ⟨bR, i, none⟩) (by have := HE.out; show w.heap.size ≤ bR; omega) _⟩
          have h1 := hrr.out.set i (natV d)
          rw [rootL_set] at h1
          exact h1)
      obtain ⟨d, hd, hs1, hs2, hRa, hRR, hRx, hRi, hB⟩ := hcut
      rename World => wA
      have ci := (Row.cell hRi 0).trans (show _ = some (natV i) from rfl)
      have HW2 := Lib.hid (And.intro hRa (And.intro hRR (And.intro hRx (And.intro hRi hB))))
      have HS2 := Lib.hid (And.intro hs1 hs2)
      clear hs1 hs2 hRa hRR hRx hRi hB HW
      go_wp2_with fail
      obtain ⟨hRa, hRR, hRx, hRi, hB⟩ := HW2.out
      have hRn := Row.new wA 3 [.int .i64 ((i : Int) - 1)]
      have e : In.nv 10000 (d :: qs) * 10000 ^ i = In.nv 10000 (rootL i d qs) := by
        rw [rootL_nv, In.nv, Nat.add_mul, Nat.pow_succ, Nat.mul_comm 10000, Nat.mul_assoc, Nat.mul_comm 10000, Nat.add_comm]
      have hlx := hRx.lt
      refine ⟨⟨i, _, d :: qs, rfl, by omega, by simp [HQ.out.1]; omega, (fun y hy => by
        rcases List.mem_cons.1 hy with rfl | hy
        · exact hd
        · exact HQ.out.2.1 y hy), by rw [e]; exact HS2.out.1, by rw [e]; exact HS2.out.2, hRa.alloc _, hRR.alloc _, hRx.alloc _, hRn, hlx, hB.alloc hB.size _⟩, ?_⟩
      have e1 := hRn.cell 0
      simp only [HC0.out, e1]
      simp [intOf]
end Go.Proofs.YtjhnfejlkljkjaaGreatDoor
