/- Natural numbers in groups: multiples by a group, differences. -/
import Derived.Test.YtjhnfejlkljkjaaDoorIntB
import Derived.Deep.DeepCutAuto
namespace Go.Proofs.YtjhnfejlkljkjaaDoor
open Go.RowKit

set_option maxRecDepth 100000 in
set_option maxHeartbeats 2000000 in
theorem scaled_any (u : Value) (a d : Nat) (w : World) (hu : NSl w u a) (ha : (In.gs a).length ≤ 1000) (hd : d < 10000) :
    Calls Tryd.prog 53 #[u, .int .i64 d] w fun e w' => ∃ r, e = .returned r ∧ NSl w' r (a * d) ∧ Below w.heap.size w w' := by
  obtain ⟨o, c, rfl, a1, a2, a3, a4⟩ := hu.ex
  obtain ⟨i0, hi, hz0, hz1, hz2⟩ := info_parts infoInt
  obtain ⟨M, hM⟩ : ∃ L, (In.gs a).length = L := ⟨_, rfl⟩
  rw [hM] at ha a1 ⊢
  have hmk : (Instr.makeSlice 49 (.int .i64 ((M : Int) + 1)) (.int .i64 ((M : Int) + 1))).run Tryd.prog w = .ok (.slice (some ⟨w.heap.size, 0, none⟩) (M + 1) (M + 1)) (w.alloc (.cells (List.replicate (M + 1) (.int .i64 0)).toArray 3)) := by
    have := run_make_row (P := Tryd.prog) w 49 3 i0 _ 8 Tryd.underlying49 hi hz0 hz1 hz2 rfl (M + 1) (by omega) (by omega)
    exact_mod_cast this
  have CA := Lib.hid (fun W (i : Int) (h : LSl W o (In.gs a)) => group_any o M c a i W hM h)
  have HA := Lib.hid a4
  have HM := Lib.hid hM
  clear a4 hM hu
  go_enter Tryd.func53, Tryd.ntmps53
  go_wp2_with fail
  have HR0 := Lib.hid (And.intro (row_zeros w (M + 1) 3) (show Below w.heap.size w (w.alloc (.cells (Array.replicate (M + 1) (.int .i64 0)) 3)) from (Below.refl _ _).alloc (Nat.le_refl _) _))
  clear hmk
  go_loopw [6, 15] (fun cv iv wr => ∃ (j cr : Nat) (ds : List Nat), j ≤ M + 1 ∧ iv = .int .i64 j ∧ cv = .int .i64 cr ∧ cr ≤ 9999 ∧ ds.length = j ∧ (∀ y ∈ ds, y < 10000) ∧ In.nv 10000 ds + 10000 ^ j * cr = a % 10000 ^ j * d ∧ Row wr w.heap.size 3 (padL ds (M + 1)) ∧ Below w.heap.size w wr) (fun _ iv _ => M + 1 - (intOf iv).toNat)
  case atStart => exact ⟨0, 0, [], by omega, rfl, rfl, by omega, rfl, (fun y hy => by cases hy), by simp [In.nv, Nat.mod_one], HR0.out.1, HR0.out.2⟩
  case round =>
    clear HR0
    obtain ⟨j, cr, ds, hj, rfl, rfl, hcr, hdl, hdx, hsum, hR, hB⟩ := hrel
    have HK := Lib.hid (And.intro hdl (And.intro hdx (And.intro hsum (And.intro hR hB))))
    by_cases hlt : j < M + 1
    · have g1 := dig_lt a j
      have HD := Lib.hid (show In.nv 10000 (ds ++ [(dig a j * d + cr) % 10000]) + 10000 ^ (j + 1) * ((dig a j * d + cr) / 10000) = a % 10000 ^ (j + 1) * d from by
        rw [dig_nat]
        exact In.mul_next hdl hsum)
      have hc := hR.cell j
      have hf := hR.frozen j
      obtain ⟨old, ho⟩ : ∃ old, (padL ds (M + 1))[j]? = some old := ⟨_, List.getElem?_eq_getElem (by rw [padL_length (by omega)]; exact hlt)⟩
      rw [ho] at hc
      replace HA := Lib.hid (HA.out.next hB)
      have CAJ := Lib.hid (fun W h => CA.out W (j : Int) h)
      clear CA
      clear hdl hdx hsum hR hB ho
      generalize dig a j = x at *
      have hxd : x * d ≤ 99980001 := Nat.le_trans (Nat.mul_le_mul (show x ≤ 9999 by omega) (show d ≤ 9999 by omega)) (by decide)
      have HXD := Lib.hid (show (((x * d : Nat)) : Int) = (x : Int) * d from by push_cast; rfl)
      have w2 : Value.int .i64 (wrap64 ((x : Int) * d)) = Value.int .i64 ((x * d : Nat) : Int) := by
        refine congrArg (Value.int .i64) ?_
        rw [← HXD.out]
        unfold wrap64
        omega
      generalize x * d = p at *
      go_wp2_with (go_at_call 67; with_reducible refine Calls.mono (CAJ.out _ HA.out) ?_; rintro e w' ⟨rfl, rfl⟩)
      go_roundw
      case rel =>
        clear w2
        obtain ⟨hdl, hdx, hsum, hR, hB⟩ := HK.out
        refine ⟨j + 1, (p + cr) / 10000, ds ++ [(p + cr) % 10000], by omega, by go_num, ?_, by omega, by simp [hdl], lt_snoc hdx (Nat.mod_lt _ (by decide)), HD.out, ?_, hB.setCell (by simp) _⟩
        · first | (exact vint (by omega)) | go_num
        have := hR.set j (natV ((p + cr) % 10000))
        rw [← hdl, padL_set (by omega)] at this
        rw [← hdl]
        exact_mod_cast this
      case measure => simp [intOf]; omega
    · obtain rfl : j = M + 1 := by omega
      have hs := In.mul_end (c := cr) (ds := ds) (a := a) hd (by rw [HM.out]; exact hsum)
      rw [padL_full hdl] at hR
      have CT := Lib.hid (trim_any (some ⟨w.heap.size, 0, none⟩) (M + 1) (M + 1) ds wr hdl hdx (Nat.le_refl _) (by omega) (fun h => by cases h) (row_sl hR))
      rw [hs] at CT
      have HBB := Lib.hid hB
      clear HK hdl hdx hsum hR hB hs hlt hj
      go_wp2_with fail
      with_reducible refine Calls.mono CT.out ?_
      rintro e w3 ⟨r, rfl, hn, hb⟩
      have HF := Lib.hid (And.intro hn (Below.andThen HBB.out hb))
      clear hn hb
      go_wp2_with fail
      go_ret
      exact ⟨_, rfl, HF.out⟩

set_option maxRecDepth 100000 in
set_option maxHeartbeats 2000000 in
theorem minus_new (u v : Value) (a b : Nat) (w : World) (hu : NSl w u a) (hv : NSl w v b) (ha : (In.gs a).length ≤ 1000) (hba : b ≤ a) :
    Calls Tryd.prog 49 #[u, v] w fun e w' => ∃ r, e = .returned r ∧ NSl w' r (a - b) ∧ Below w.heap.size w w' ∧ ∀ k, r.ownBlock = some k → w.heap.size ≤ k := by
  obtain ⟨o, c, rfl, a1, a2, a3, a4⟩ := hu.ex
  obtain ⟨o', c', rfl, b1, b2, b3, b4⟩ := hv.ex
  obtain ⟨i0, hi, hz0, hz1, hz2⟩ := info_parts infoInt
  obtain ⟨M, hM⟩ : ∃ L, (In.gs a).length = L := ⟨_, rfl⟩
  obtain ⟨LB, hLB⟩ : ∃ L, (In.gs b).length = L := ⟨_, rfl⟩
  rw [hM] at ha a1 ⊢
  rw [hLB] at b1 ⊢
  have hmk := run_make_row (P := Tryd.prog) w 49 3 i0 _ 8 Tryd.underlying49 hi hz0 hz1 hz2 rfl M (by omega) (by omega)
  have CB := Lib.hid (fun W (i : Int) (h : LSl W o' (In.gs b)) => group_any o' LB c' b i W hLB h)
  have HA := Lib.hid a4
  have HB := Lib.hid b4
  have HM := Lib.hid hM
  clear a4 b4 hM hLB hu hv
  go_enter Tryd.func49, Tryd.ntmps49
  go_wp2_with fail
  have HR0 := Lib.hid (And.intro (row_zeros w M 3) (show Below w.heap.size w (w.alloc (.cells (Array.replicate M (.int .i64 0)) 3)) from (Below.refl _ _).alloc (Nat.le_refl _) _))
  clear hmk
  go_loopw [6, 14] (fun cv iv wr => ∃ (j cr : Nat) (ds : List Nat), j ≤ M ∧ iv = .int .i64 j ∧ cv = .int .i64 cr ∧ cr ≤ 1 ∧ ds.length = j ∧ (∀ y ∈ ds, y < 10000) ∧ In.nv 10000 ds + b % 10000 ^ j = a % 10000 ^ j + 10000 ^ j * cr ∧ Row wr w.heap.size 3 (padL ds M) ∧ Below w.heap.size w wr) (fun _ iv _ => M - (intOf iv).toNat)
  case atStart => exact ⟨0, 0, [], by omega, rfl, rfl, by omega, rfl, (fun y hy => by cases hy), by simp [In.nv, Nat.mod_one], HR0.out.1, HR0.out.2⟩
  case round =>
    clear HR0
    obtain ⟨j, cr, ds, hj, rfl, rfl, hcr, hdl, hdx, hsum, hR, hB⟩ := hrel
    have HK := Lib.hid (And.intro hdl (And.intro hdx (And.intro hsum (And.intro hR hB))))
    by_cases hlt : j < M
    · have g2 := dig_lt b j
      have g1 := dig_lt a j
      have hx := In.gs_at (n := a) (i := j) (by rw [HM.out]; exact hlt)
      rw [← dig_nat] at hx
      have HD := Lib.hid (fun (x c' : Nat) (h : x + dig b j + cr = dig a j + 10000 * c') => In.sub_next (a := a) (b := b) (c := cr) (x := x) (c' := c') hdl hsum (by rw [← dig_nat, ← dig_nat]; exact h))
      replace HA := Lib.hid (HA.out.next hB)
      replace HB := Lib.hid (HB.out.next hB)
      have CBJ := Lib.hid (fun (k : Kin wr) => CB.out k.it (j : Int) (HB.out.next k.below))
      clear CB
      generalize dig a j = x at *
      generalize dig b j = y at *
      rcases HA.out with h | ⟨b0, off, rfl, hb0, hcell⟩
      · rw [h] at hx; simp at hx
      have c1 := hcell j x hx
      have hRl := hR.lt
      clear hx hcell hdl hdx hsum hR hB
      go_upto_region 6 with (fail)
      refine wp_region_kin (by kernel_rfl) (by kernel_rfl) wr.heap.size 0 (by simp) (fun hk => ?_)
      repeat (go_big_quiet_step (first | (go_at_call 67; with_reducible exact Calls.kin_same (CBJ.out _))))
      refine wpQuiet_nil ?_
      clear hk
      intro W2 hb
      have hR2 := HK.out.2.2.2.1.next hb
      have HB2 := Lib.hid (Below.andThen HK.out.2.2.2.2 hb)
      have hc := hR2.cell j
      have hf := hR2.frozen j
      obtain ⟨old, ho⟩ : ∃ old, (padL ds M)[j]? = some old := ⟨_, List.getElem?_eq_getElem (by rw [padL_length (by have := HK.out.1; omega)]; exact hlt)⟩
      rw [ho] at hc
      have HR2 := Lib.hid hR2
      clear hR2 hb ho c1 CBJ
      by_cases hbr : y + cr ≤ x
      · have HE := Lib.hid (HD.out (x - y - cr) 0 (by omega))
        have e1 : (x : Int) - y - cr = ((x - y - cr : Nat) : Int) := by omega
        have hz : x - y - cr < 10000 := by omega
        have e2 : decide ((x : Int) - y - cr < 0) = false := by simp; omega
        go_wp2_with fail
        go_roundw
        case rel =>
          obtain ⟨hdl, hdx, hsum, hR, hB⟩ := HK.out
          refine ⟨j + 1, 0, ds ++ [x - y - cr], by omega, by go_num, rfl, by omega, by simp [hdl], lt_snoc hdx hz, HE.out, ?_, HB2.out.setCell (by simp) _⟩
          have := HR2.out.set j (natV (x - y - cr))
          rw [← hdl, padL_set (by omega)] at this
          rw [← hdl]
          simpa [natV, e1] using this
        case measure => simp [intOf]; omega
      · have HE := Lib.hid (HD.out (x + 10000 - y - cr) 1 (by omega))
        have e1 : (x : Int) - y - cr + 10000 = ((x + 10000 - y - cr : Nat) : Int) := by omega
        have hz : x + 10000 - y - cr < 10000 := by omega
        have e2 : decide ((x : Int) - y - cr < 0) = true := by simp; omega
        go_wp2_with fail
        go_roundw
        case rel =>
          obtain ⟨hdl, hdx, hsum, hR, hB⟩ := HK.out
          refine ⟨j + 1, 1, ds ++ [x + 10000 - y - cr], by omega, by go_num, rfl, by omega, by simp [hdl], lt_snoc hdx hz, HE.out, ?_, HB2.out.setCell (by simp) _⟩
          have := HR2.out.set j (natV (x + 10000 - y - cr))
          rw [← hdl, padL_set (by omega)] at this
          rw [← hdl]
          simpa [natV, e1] using this
        case measure => simp [intOf]; omega
    · obtain rfl : j = M := by omega
      have hs := In.sub_end (c := cr) (by rw [HM.out]; exact hdl) hdx hba (by rw [HM.out]; exact hsum)
      rw [padL_full hdl] at hR
      have CT := Lib.hid (trim_any (some ⟨w.heap.size, 0, none⟩) j j ds wr hdl hdx (Nat.le_refl _) (by omega) (fun h => by cases h) (row_sl hR))
      rw [hs] at CT
      have HBB := Lib.hid hB
      clear HK hdl hdx hsum hR hB hs hlt hj
      go_wp2_with fail
      with_reducible refine Calls.mono CT.out ?_
      rintro e w3 ⟨r, rfl, hn, hb⟩
      have HF := Lib.hid (And.intro hn (Below.andThen HBB.out hb))
      clear hn hb
      go_wp2_with fail
      go_ret
      exact ⟨_, rfl, HF.out.1, HF.out.2, fun k hk => by
        have h : w.heap.size = k := by simpa [Value.ownBlock] using hk
        omega⟩
theorem minus_any (u v : Value) (a b : Nat) (w : World) (hu : NSl w u a) (hv : NSl w v b) (ha : (In.gs a).length ≤ 1000) (hba : b ≤ a) :
    Calls Tryd.prog 49 #[u, v] w fun e w' => ∃ r, e = .returned r ∧ NSl w' r (a - b) ∧ Below w.heap.size w w' :=
  (minus_new u v a b w hu hv ha hba).mono fun _ _ ⟨r, h1, h2, h3, _⟩ => ⟨r, h1, h2, h3⟩
end Go.Proofs.YtjhnfejlkljkjaaDoor
