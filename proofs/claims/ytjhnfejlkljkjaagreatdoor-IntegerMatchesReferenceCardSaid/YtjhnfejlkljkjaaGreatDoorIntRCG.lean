/- The reference implementation: order. -/
/- The reference implementation: sums, differences. -/
/- The reference implementation: differences, products. -/
/- The reference implementation: products. -/
/- The reference implementation: quotients. -/
import Derived.Test.YtjhnfejlkljkjaaGreatDoorIntRB
import Derived.Test.YtjhnfejlkljkjaaGreatDoorIntRMM
namespace Go.Proofs.YtjhnfejlkljkjaaGreatDoor
open Go.RowKit

set_option maxRecDepth 100000 in
set_option maxHeartbeats 1000000 in
theorem rorder_any (u v : Value) (a b : Nat) (w : World) (hu : DSl w u a) (hv : DSl w v b) (ha : (In.dg a).length ≤ 1000) (hb : (In.dg b).length ≤ 1000) :
    Calls Tryz.prog 48 #[u, v] w fun e w' => e = .returned (.int .i64 (In.cmpN a b)) ∧ Below w.heap.size w w' := by
  obtain ⟨o, c, rfl, a1, a2, a3, a4⟩ := hu.ex
  obtain ⟨o', c', rfl, b1, b2, b3, b4⟩ := hv.ex
  obtain ⟨M, hM⟩ : ∃ L, (In.dg a).length = L := ⟨_, rfl⟩
  obtain ⟨N, hN⟩ : ∃ L, (In.dg b).length = L := ⟨_, rfl⟩
  rw [hM] at ha a1 ⊢
  rw [hN] at hb b1 ⊢
  have HBR := Lib.hid (Below.refl w.heap.size w)
  by_cases hMN : M = N
  · subst hMN
    have HA := Lib.hid a4
    have HB := Lib.hid b4
    have HM := Lib.hid hM
    have HN := Lib.hid hN
    clear a4 b4 hM hN hu hv
    go_enter Tryz.func48, Tryz.ntmps48
    go_wp2_with fail
    go_loopw [5] (fun iv wr => ∃ k : Nat, k ≤ M ∧ iv = .int .i64 ((k : Int) - 1) ∧ a / 10 ^ k = b / 10 ^ k ∧ Below w.heap.size w wr) (fun iv _ => (intOf iv + 1).toNat)
    case atStart => exact ⟨M, Nat.le_refl _, rfl, by rw [← HM.out, In.dg_top, HM.out, ← HN.out, In.dg_top], HBR.out⟩
    case round =>
      obtain ⟨k, hk, rfl, heq, hB⟩ := hrel
      replace HA := Lib.hid (HA.out.next hB)
      replace HB := Lib.hid (HB.out.next hB)
      replace HBR := Lib.hid hB
      have HE := Lib.hid heq
      clear heq hB
      cases k with
      | zero =>
        have HR := Lib.hid (show In.cmpN a b = 0 from by
          have := HE.out
          rw [Nat.pow_zero, Nat.div_one, Nat.div_one] at this
          rw [this, In.cmpN_eq])
        rw [show ((0 : Nat) : Int) - 1 = -1 from rfl]
        go_wp2_with fail
        go_ret
        exact ⟨retv (vint HR.out.symm), HBR.out⟩
      | succ k =>
        rw [show ((k + 1 : Nat) : Int) - 1 = (k : Int) by omega]
        have hx := In.dg_at (n := a) (i := k) (by rw [HM.out]; omega)
        have hy := In.dg_at (n := b) (i := k) (by rw [HN.out]; omega)
        have HX2 := Lib.hid (fun (h : a / 10 ^ k % 10 < b / 10 ^ k % 10) => In.cmpN_lt (In.ord_digit HE.out h))
        have HY2 := Lib.hid (fun (h : b / 10 ^ k % 10 < a / 10 ^ k % 10) => In.cmpN_gt (In.ord_digit HE.out.symm h))
        have HQ := Lib.hid (fun (h : a / 10 ^ k % 10 = b / 10 ^ k % 10) => In.ord_next HE.out h)
        have lx : a / 10 ^ k % 10 < 10 := Nat.mod_lt _ (by decide)
        have ly : b / 10 ^ k % 10 < 10 := Nat.mod_lt _ (by decide)
        generalize a / 10 ^ k % 10 = x at *
        generalize b / 10 ^ k % 10 = y at *
        rcases HA.out with h | ⟨p, off, rfl, hp, hcell⟩
        · rw [h] at hx; simp at hx
        rcases HB.out with h | ⟨p', off', rfl, hp', hcell'⟩
        · rw [h] at hy; simp at hy
        have c1 := hcell k x hx
        have c2 := hcell' k y hy
        have c3 : wr.drew.cell? ⟨p, off + k, none⟩ = some (natV x) := c1
        have c4 : wr.drew.cell? ⟨p', off' + k, none⟩ = some (natV y) := c2
        clear hx hy hcell hcell' HE
        by_cases hxy : x = y
        · subst hxy
          have HQ2 := Lib.hid (HQ.out rfl)
          clear HX2 HY2 HQ
          go_upto_region 8 with (fail)
          refine wp_region_kin (by kernel_rfl) (by kernel_rfl) wr.heap.size 0 (by simp) (fun hk => ?_)
          repeat (go_big_quiet_step (fail))
          refine wpQuiet_nil ?_
          clear hk
          intro W2 hb
          have HB2 := Lib.hid (Below.andThen HBR.out hb)
          clear hb
          go_wp2_with fail
          refine ⟨⟨k, by omega, by first | rfl | go_num, HQ2.out, HB2.out⟩, by simp [intOf]⟩
        · have n1 : ¬ (x : Int) = y := by omega
          have n2 : decide ((x : Int) = y) = false := by simp; omega
          have n3 : ((x : Int) != y) = true := by simp; omega
          have hlt : (x < y ∧ In.cmpN a b = -1) ∨ (y < x ∧ In.cmpN a b = 1) := by
            rcases Nat.lt_or_ge x y with h | h
            · exact .inl ⟨h, HX2.out h⟩
            · exact .inr ⟨by omega, HY2.out (by omega)⟩
          clear HX2 HY2 HQ
          go_upto_region 8 with (fail)
          refine wp_region_kin (by kernel_rfl) (by kernel_rfl) wr.heap.size 0 (by simp) (fun hk => ?_)
          repeat (go_big_quiet_step (fail))
          refine wpQuiet_nil ?_
          clear hk
          intro W2 hb
          have HB2 := Lib.hid (Below.andThen HBR.out hb)
          have c5 := (hb.cell (p := ⟨p, off + k, none⟩) hp).trans c1
          have c6 := (hb.cell (p := ⟨p', off' + k, none⟩) hp').trans c2
          have c7 : W2.drew.cell? ⟨p, off + k, none⟩ = some (natV x) := c5
          have c8 : W2.drew.cell? ⟨p', off' + k, none⟩ = some (natV y) := c6
          have hp2 := Nat.lt_of_lt_of_le hp hb.size
          have hp3 := Nat.lt_of_lt_of_le hp' hb.size
          clear hb c1 c2 c3 c4 hp hp'
          rcases hlt with ⟨h, hv⟩ | ⟨h, hv⟩
          all_goals
            have HV := Lib.hid hv
            clear hv
            go_upto_region 9 with (fail)
            refine wp_region_kin (by kernel_rfl) (by kernel_rfl) W2.heap.size 0 (by simp) (fun hk => ?_)
            repeat (go_big_quiet_step (fail))
            refine wpQuiet_nil ?_
            clear hk
            intro W3 hb
            have HB3 := Lib.hid (Below.andThen HB2.out hb)
            clear hb
            go_wp2_with fail
            go_ret
            exact ⟨retv (vint HV.out.symm), HB3.out⟩
  · have n1 : ¬ (M : Int) = N := by omega
    have n2 : decide ((M : Int) = N) = false := by simp; omega
    have n3 : ((M : Int) != N) = true := by simp; omega
    have hlt : (M < N ∧ In.cmpN a b = -1) ∨ (N < M ∧ In.cmpN a b = 1) := by
      rcases Nat.lt_or_ge M N with h | h
      · exact .inl ⟨h, In.cmpN_lt (In.ord_len (by rw [hM, hN]; exact h))⟩
      · exact .inr ⟨by omega, In.cmpN_gt (In.ord_len (by rw [hM, hN]; omega))⟩
    generalize In.cmpN a b = R at *
    clear a4 b4 hM hN hu hv
    rcases hlt with ⟨h, rfl⟩ | ⟨h, rfl⟩
    · go_enter Tryz.func48, Tryz.ntmps48
      go_wp2_with fail
      go_ret
      exact ⟨rfl, HBR.out⟩
    · go_enter Tryz.func48, Tryz.ntmps48
      go_wp2_with fail
      go_ret
      exact ⟨rfl, HBR.out⟩
end Go.Proofs.YtjhnfejlkljkjaaGreatDoor
namespace Go.Proofs.YtjhnfejlkljkjaaGreatDoor
open Go.RowKit

/-- digits in an own slice -/
theorem dsl_own {w : World} {B n : Nat} {v : Value} {l : List Nat} {N : Nat} (h : w.ownsRow B 3 1 v n (l.map natV)) (hl : ∀ x ∈ l, x < 10) (hv : In.nv 10 l = N) (hb : l = [] ∨ 10 ^ (l.length - 1) ≤ N) : DSl w v N := by
  obtain ⟨o, c, rfl, h1, h2, h3, h4⟩ := own_nats h
  unfold maxLen at h2
  have e := In.dg_is hl hv hb
  rw [e] at h4
  exact DSl.mk' (by rw [← e]; have := h.1; simpa using this) h1 (by omega) h3 h4
theorem lt_snoc10 {ds : List Nat} {x : Nat} (h : ∀ y ∈ ds, y < 10) (hx : x < 10) : ∀ y ∈ ds ++ [x], y < 10 := by
  intro y hy
  rcases List.mem_append.1 hy with h1 | h1
  · exact h y h1
  · rw [List.mem_singleton.1 h1]; exact hx
theorem natV_app (ds : List Nat) (x : Nat) : ds.map natV ++ [natV x] = (ds ++ [x]).map natV := by simp
set_option maxRecDepth 100000 in
set_option maxHeartbeats 2000000 in
theorem rplus_any (u v : Value) (a b : Nat) (w : World) (hu : DSl w u a) (hv : DSl w v b) (ha : (In.dg a).length ≤ 1000) (hb : (In.dg b).length ≤ 1000) :
    Calls Tryz.prog 41 #[u, v] w fun e w' => ∃ r, e = .returned r ∧ DSl w' r (a + b) ∧ Below w.heap.size w w' := by
  obtain ⟨o, c, rfl, a1, a2, a3, a4⟩ := hu.ex
  obtain ⟨o', c', rfl, b1, b2, b3, b4⟩ := hv.ex
  obtain ⟨M, hM⟩ : ∃ L, (In.dg a).length = L := ⟨_, rfl⟩
  obtain ⟨N, hN⟩ : ∃ L, (In.dg b).length = L := ⟨_, rfl⟩
  rw [hM] at ha a1 ⊢
  rw [hN] at hb b1 ⊢
  have HA := Lib.hid a4
  have HB := Lib.hid b4
  have HM := Lib.hid hM
  have HN := Lib.hid hN
  clear a4 b4 hM hN hu hv
  go_enter Tryz.func41, Tryz.ntmps41
  go_wp2_with fail
  go_loopw [5, 6, 7] (fun ov cv iv wr => ∃ (j cr : Nat) (ds : List Nat), iv = .int .i64 j ∧ cv = .int .i64 cr ∧ cr ≤ 1 ∧ j ≤ max M N + 1 ∧ ds.length = j ∧ (∀ y ∈ ds, y < 10) ∧ In.nv 10 ds + 10 ^ j * cr = a % 10 ^ j + b % 10 ^ j ∧ (j = max M N + 1 → cr = 0) ∧ (ds = [] ∨ 10 ^ (j - 1) ≤ a + b) ∧ wr.ownsRow w.heap.size 3 1 ov j (ds.map natV) ∧ Below w.heap.size w wr) (fun _ _ iv _ => max M N + 1 - (intOf iv).toNat)
  case atStart => exact ⟨0, 0, [], rfl, rfl, by omega, by omega, rfl, (fun y hy => by cases hy), by simp [In.nv, Nat.mod_one], fun _ => rfl, .inl rfl, World.ownsRow_nil _ _ _ _, Below.refl _ _⟩
  case round =>
    obtain ⟨j, cr, ds, rfl, rfl, hcr, hj, hdl, hdx, hsum, hend, hbig, hrow, hB⟩ := hrel
    have HK := Lib.hid (And.intro hdl (And.intro hdx (And.intro hsum (And.intro hend (And.intro hbig hB)))))
    replace HA := Lib.hid (HA.out.next hB)
    replace HB := Lib.hid (HB.out.next hB)
    have hob := Lib.hid (own_block hrow)
    have hbs := hB.size
    have HR := Lib.hid hrow
    have lx : a / 10 ^ j % 10 < 10 := Nat.mod_lt _ (by decide)
    have ly : b / 10 ^ j % 10 < 10 := Nat.mod_lt _ (by decide)
    have HD := Lib.hid (fun (n : Nat) (h : n = a / 10 ^ j % 10 + b / 10 ^ j % 10 + cr) => show In.nv 10 (ds ++ [n % 10]) + 10 ^ (j + 1) * (n / 10) = a % 10 ^ (j + 1) + b % 10 ^ (j + 1) from by
      rw [h]
      exact In.radd_next hdl hsum)
    have hxa : j < M ∧ (In.dg a)[j]? = some (a / 10 ^ j % 10) ∧ 10 ^ j ≤ a ∨ M ≤ j ∧ a / 10 ^ j % 10 = 0 := by
      rcases Nat.lt_or_ge j M with h | h
      · exact .inl ⟨h, In.dg_at (by rw [HM.out]; exact h), In.dg_big (by rw [HM.out]; exact h)⟩
      · exact .inr ⟨h, In.dg_out (by rw [HM.out]; exact h)⟩
    have hxb : j < N ∧ (In.dg b)[j]? = some (b / 10 ^ j % 10) ∧ 10 ^ j ≤ b ∨ N ≤ j ∧ b / 10 ^ j % 10 = 0 := by
      rcases Nat.lt_or_ge j N with h | h
      · exact .inl ⟨h, In.dg_at (by rw [HN.out]; exact h), In.dg_big (by rw [HN.out]; exact h)⟩
      · exact .inr ⟨h, In.dg_out (by rw [HN.out]; exact h)⟩
    have HCB := Lib.hid (fun (h : 0 < cr) => In.radd_big hsum h)
    generalize a / 10 ^ j % 10 = x at *
    generalize b / 10 ^ j % 10 = y at *
    have hdone : (M ≤ j ∧ N ≤ j ∧ cr = 0) ∨ ¬ (M ≤ j ∧ N ≤ j ∧ cr = 0) := Classical.em _
    rcases hdone with ⟨e1, e2, rfl⟩ | hgo
    · have HF := Lib.hid (show DSl wr _ (a + b) from dsl_own hrow hdx (In.radd_end (by rw [HM.out]; exact e1) (by rw [HN.out]; exact e2) hsum) (by rw [hdl]; exact hbig))
      have HBB := Lib.hid hB
      obtain ⟨o2, c2, rfl, _⟩ := own_nats hrow
      have d1 : decide ((j : Int) < M) = false := by rw [decide_eq_false_iff_not]; omega
      have d2 : decide ((j : Int) < N) = false := by rw [decide_eq_false_iff_not]; omega
      clear hrow hdl hdx hsum hend hbig hB HK HR HD HCB hxa hxb hob
      go_wp2_with fail
      go_ret
      exact ⟨_, rfl, HF.out, HBB.out⟩
    · have HBIG := Lib.hid (show 10 ^ j ≤ a + b from by
        rcases hxa with ⟨_, _, h⟩ | ⟨h, _⟩
        · omega
        · rcases hxb with ⟨_, _, h2⟩ | ⟨h2, _⟩
          · omega
          · exact HCB.out (by omega))
      have HJ := Lib.hid (show j < max M N + 1 from by
        rcases Nat.lt_or_ge j (max M N + 1) with h | h
        · exact h
        · exfalso
          have := hend (by omega)
          omega)
      have hj1 : j ≤ 1001 := by omega
      clear hdl hdx hsum hend hbig hB HCB hrow
      rcases hxa with ⟨h1, hx, _⟩ | ⟨h1, rfl⟩
      · rcases HA.out with h | ⟨p, off, rfl, hp, hcell⟩
        · rw [h] at hx; simp at hx
        have c1 := hcell j x hx
        clear hx hcell
        have d1 : decide ((j : Int) < M) = true := by rw [decide_eq_true_eq]; omega
        rcases hxb with ⟨h2, hy, _⟩ | ⟨h2, rfl⟩
        · rcases HB.out with h | ⟨p', off', rfl, hp', hcell'⟩
          · rw [h] at hy; simp at hy
          have c2 := hcell' j y hy
          clear hy hcell'
          have d2 : decide ((j : Int) < N) = true := by rw [decide_eq_true_eq]; omega
          go_wp2_with (at_builtin; refine wpList_append_nats rfl _ _ 38 Tryz.underlying38 rfl rfl w.heap.size _ j ds rfl (HR.out.alloc _) (some ⟨wr.heap.size, 0, none⟩) 1 1 [(cr + x + y) % 10] rfl rfl (fun h => by cases h) (row_sl (Row.new _ 3 [natV ((cr + x + y) % 10)])) (by omega) (by simp; omega) ?_; intro v' w1 hown' hgrow; have K := Lib.hid (And.intro hown' hgrow); clear hown' hgrow)
          go_roundw
          case rel =>
            obtain ⟨hdl, hdx, hsum, hend, hbig, hB⟩ := HK.out
            refine ⟨j + 1, (cr + x + y) / 10, ds ++ [(cr + x + y) % 10], by go_num, by go_num, by omega, by have := HJ.out; omega, by simp [hdl], lt_snoc10 hdx (Nat.mod_lt _ (by decide)), HD.out _ (by omega), fun h => by omega, .inr HBIG.out, K.out.1, (hB.alloc hbs _).grown K.out.2 (by simp; omega) hob.out⟩
          case measure => have := HJ.out; simp [intOf]; omega
        · have d2 : decide ((j : Int) < N) = false := by rw [decide_eq_false_iff_not]; omega
          go_wp2_with (at_builtin; refine wpList_append_nats rfl _ _ 38 Tryz.underlying38 rfl rfl w.heap.size _ j ds rfl (HR.out.alloc _) (some ⟨wr.heap.size, 0, none⟩) 1 1 [(cr + x) % 10] rfl rfl (fun h => by cases h) (row_sl (Row.new _ 3 [natV ((cr + x) % 10)])) (by omega) (by simp; omega) ?_; intro v' w1 hown' hgrow; have K := Lib.hid (And.intro hown' hgrow); clear hown' hgrow)
          go_roundw
          case rel =>
            obtain ⟨hdl, hdx, hsum, hend, hbig, hB⟩ := HK.out
            refine ⟨j + 1, (cr + x) / 10, ds ++ [(cr + x) % 10], by go_num, by go_num, by omega, by have := HJ.out; omega, by simp [hdl], lt_snoc10 hdx (Nat.mod_lt _ (by decide)), HD.out _ (by omega), fun h => by omega, .inr HBIG.out, K.out.1, (hB.alloc hbs _).grown K.out.2 (by simp; omega) hob.out⟩
          case measure => have := HJ.out; simp [intOf]; omega
      · have d1 : decide ((j : Int) < M) = false := by rw [decide_eq_false_iff_not]; omega
        rcases hxb with ⟨h2, hy, _⟩ | ⟨h2, rfl⟩
        · rcases HB.out with h | ⟨p', off', rfl, hp', hcell'⟩
          · rw [h] at hy; simp at hy
          have c2 := hcell' j y hy
          clear hy hcell'
          have d2 : decide ((j : Int) < N) = true := by rw [decide_eq_true_eq]; omega
          go_wp2_with (at_builtin; refine wpList_append_nats rfl _ _ 38 Tryz.underlying38 rfl rfl w.heap.size _ j ds rfl (HR.out.alloc _) (some ⟨wr.heap.size, 0, none⟩) 1 1 [(cr + y) % 10] rfl rfl (fun h => by cases h) (row_sl (Row.new _ 3 [natV ((cr + y) % 10)])) (by omega) (by simp; omega) ?_; intro v' w1 hown' hgrow; have K := Lib.hid (And.intro hown' hgrow); clear hown' hgrow)
          go_roundw
          case rel =>
            obtain ⟨hdl, hdx, hsum, hend, hbig, hB⟩ := HK.out
            refine ⟨j + 1, (cr + y) / 10, ds ++ [(cr + y) % 10], by go_num, by go_num, by omega, by have := HJ.out; omega, by simp [hdl], lt_snoc10 hdx (Nat.mod_lt _ (by decide)), HD.out _ (by omega), fun h => by omega, .inr HBIG.out, K.out.1, (hB.alloc hbs _).grown K.out.2 (by simp; omega) hob.out⟩
          case measure => have := HJ.out; simp [intOf]; omega
        · have d2 : decide ((j : Int) < N) = false := by rw [decide_eq_false_iff_not]; omega
          have hc1 : 0 < cr := by omega
          have d3 : decide (0 < (cr : Int)) = true := by rw [decide_eq_true_eq]; omega
          go_wp2_with (at_builtin; refine wpList_append_nats rfl _ _ 38 Tryz.underlying38 rfl rfl w.heap.size _ j ds rfl (HR.out.alloc _) (some ⟨wr.heap.size, 0, none⟩) 1 1 [(cr) % 10] rfl rfl (fun h => by cases h) (row_sl (Row.new _ 3 [natV ((cr) % 10)])) (by omega) (by simp; omega) ?_; intro v' w1 hown' hgrow; have K := Lib.hid (And.intro hown' hgrow); clear hown' hgrow)
          go_roundw
          case rel =>
            obtain ⟨hdl, hdx, hsum, hend, hbig, hB⟩ := HK.out
            refine ⟨j + 1, (cr) / 10, ds ++ [(cr) % 10], by go_num, by go_num, by omega, by have := HJ.out; omega, by simp [hdl], lt_snoc10 hdx (Nat.mod_lt _ (by decide)), HD.out _ (by omega), fun h => by omega, .inr HBIG.out, K.out.1, (hB.alloc hbs _).grown K.out.2 (by simp; omega) hob.out⟩
          case measure => have := HJ.out; simp [intOf]; omega
end Go.Proofs.YtjhnfejlkljkjaaGreatDoor
namespace Go.Proofs.YtjhnfejlkljkjaaGreatDoor
open Go.RowKit

theorem lsl_one (w : World) (v : Int) (E : Nat) (h : v = (E : Int)) : LSl (w.alloc (.cells #[.int .i64 v] 3)) (some ⟨w.heap.size, 0, none⟩) [E] := by
  subst h
  exact row_sl (Row.new w 3 [natV E])
set_option maxRecDepth 100000 in
set_option maxHeartbeats 2000000 in
theorem rminus_new (u v : Value) (a b : Nat) (w : World) (hu : DSl w u a) (hv : DSl w v b) (ha : (In.dg a).length ≤ 1000) (hba : b ≤ a) :
    Calls Tryz.prog 42 #[u, v] w fun e w' => ∃ r, e = .returned r ∧ DSl w' r (a - b) ∧ Below w.heap.size w w' ∧ ∀ k, r.ownBlock = some k → w.heap.size ≤ k := by
  obtain ⟨o, c, rfl, a1, a2, a3, a4⟩ := hu.ex
  obtain ⟨o', c', rfl, b1, b2, b3, b4⟩ := hv.ex
  obtain ⟨M, hM⟩ : ∃ L, (In.dg a).length = L := ⟨_, rfl⟩
  obtain ⟨N, hN⟩ : ∃ L, (In.dg b).length = L := ⟨_, rfl⟩
  rw [hM] at ha a1 ⊢
  rw [hN] at b1 ⊢
  have HA := Lib.hid a4
  have HB := Lib.hid b4
  have HM := Lib.hid hM
  have HN := Lib.hid hN
  clear a4 b4 hM hN hu hv
  go_enter Tryz.func42, Tryz.ntmps42
  go_wp2_with fail
  go_loopw [5, 6, 7] (fun ov cv iv wr => ∃ (j cr : Nat) (ds : List Nat), iv = .int .i64 j ∧ cv = .int .i64 cr ∧ cr ≤ 1 ∧ j ≤ M ∧ ds.length = j ∧ (∀ y ∈ ds, y < 10) ∧ In.nv 10 ds + b % 10 ^ j = a % 10 ^ j + 10 ^ j * cr ∧ wr.ownsRow w.heap.size 3 1 ov j (ds.map natV) ∧ Below w.heap.size w wr) (fun _ _ iv _ => M - (intOf iv).toNat)
  case atStart => exact ⟨0, 0, [], rfl, rfl, by omega, by omega, rfl, (fun y hy => by cases hy), by simp [In.nv, Nat.mod_one], World.ownsRow_nil _ _ _ _, Below.refl _ _⟩
  case round =>
    obtain ⟨j, cr, ds, rfl, rfl, hcr, hj, hdl, hdx, hsum, hrow, hB⟩ := hrel
    have HK := Lib.hid (And.intro hdl (And.intro hdx (And.intro hsum hB)))
    have hob := Lib.hid (own_block hrow)
    have hbs := hB.size
    by_cases hlt : j < M
    · replace HA := Lib.hid (HA.out.next hB)
      replace HB := Lib.hid (HB.out.next hB)
      have HR := Lib.hid hrow
      have lx : a / 10 ^ j % 10 < 10 := Nat.mod_lt _ (by decide)
      have ly : b / 10 ^ j % 10 < 10 := Nat.mod_lt _ (by decide)
      have HD := Lib.hid (fun (x c' : Nat) (h : x + b / 10 ^ j % 10 + cr = a / 10 ^ j % 10 + 10 * c') => In.rsub_next (a := a) (b := b) (c := cr) (x := x) (c' := c') hdl hsum h)
      have hx := In.dg_at (n := a) (i := j) (by rw [HM.out]; exact hlt)
      have hxb : j < N ∧ (In.dg b)[j]? = some (b / 10 ^ j % 10) ∨ N ≤ j ∧ b / 10 ^ j % 10 = 0 := by
        rcases Nat.lt_or_ge j N with h | h
        · exact .inl ⟨h, In.dg_at (by rw [HN.out]; exact h)⟩
        · exact .inr ⟨h, In.dg_out (by rw [HN.out]; exact h)⟩
      generalize a / 10 ^ j % 10 = x at *
      generalize b / 10 ^ j % 10 = y at *
      rcases HA.out with h | ⟨p, off, rfl, hp, hcell⟩
      · rw [h] at hx; simp at hx
      have c1 := hcell j x hx
      clear hx hcell hdl hdx hsum hB hrow
      rcases hxb with ⟨h2, hy⟩ | ⟨h2, rfl⟩
      · rcases HB.out with h | ⟨p', off', rfl, hp', hcell'⟩
        · rw [h] at hy; simp at hy
        have c2 := hcell' j y hy
        clear hy hcell'
        have d2 : decide ((j : Int) < N) = true := by rw [decide_eq_true_eq]; omega
        by_cases hbr : y + cr ≤ x
        · have e2 : decide ((x : Int) - cr - y < 0) = false := by rw [decide_eq_false_iff_not]; omega
          have HE := Lib.hid (HD.out (x - cr - y) 0 (by omega))
          go_wp2_with (at_builtin; refine wpList_append_nats rfl _ _ 38 Tryz.underlying38 rfl rfl w.heap.size _ j ds rfl (HR.out.alloc _) (some ⟨wr.heap.size, 0, none⟩) 1 1 [x - cr - y] rfl rfl (fun h => by cases h) (lsl_one _ _ (x - cr - y) (by omega)) (by omega) (by simp; omega) ?_; intro v' w1 hown' hgrow; have K := Lib.hid (And.intro hown' hgrow); clear hown' hgrow)
          go_roundw
          case rel =>
            obtain ⟨hdl, hdx, hsum, hB⟩ := HK.out
            refine ⟨j + 1, 0, ds ++ [x - cr - y], by go_num, rfl, by omega, by omega, by simp [hdl], lt_snoc10 hdx (by omega), HE.out, K.out.1, (hB.alloc hbs _).grown K.out.2 (by simp; omega) hob.out⟩
          case measure => simp [intOf]; omega
        · have e2 : decide ((x : Int) - cr - y < 0) = true := by rw [decide_eq_true_eq]; omega
          have HE := Lib.hid (HD.out (x + 10 - cr - y) 1 (by omega))
          go_wp2_with (at_builtin; refine wpList_append_nats rfl _ _ 38 Tryz.underlying38 rfl rfl w.heap.size _ j ds rfl (HR.out.alloc _) (some ⟨wr.heap.size, 0, none⟩) 1 1 [x + 10 - cr - y] rfl rfl (fun h => by cases h) (lsl_one _ _ (x + 10 - cr - y) (by omega)) (by omega) (by simp; omega) ?_; intro v' w1 hown' hgrow; have K := Lib.hid (And.intro hown' hgrow); clear hown' hgrow)
          go_roundw
          case rel =>
            obtain ⟨hdl, hdx, hsum, hB⟩ := HK.out
            refine ⟨j + 1, 1, ds ++ [x + 10 - cr - y], by go_num, rfl, by omega, by omega, by simp [hdl], lt_snoc10 hdx (by omega), HE.out, K.out.1, (hB.alloc hbs _).grown K.out.2 (by simp; omega) hob.out⟩
          case measure => simp [intOf]; omega
      · have d2 : decide ((j : Int) < N) = false := by rw [decide_eq_false_iff_not]; omega
        by_cases hbr : cr ≤ x
        · have e2 : decide ((x : Int) - cr < 0) = false := by rw [decide_eq_false_iff_not]; omega
          have HE := Lib.hid (HD.out (x - cr) 0 (by omega))
          go_wp2_with (at_builtin; refine wpList_append_nats rfl _ _ 38 Tryz.underlying38 rfl rfl w.heap.size _ j ds rfl (HR.out.alloc _) (some ⟨wr.heap.size, 0, none⟩) 1 1 [x - cr] rfl rfl (fun h => by cases h) (lsl_one _ _ (x - cr) (by omega)) (by omega) (by simp; omega) ?_; intro v' w1 hown' hgrow; have K := Lib.hid (And.intro hown' hgrow); clear hown' hgrow)
          go_roundw
          case rel =>
            obtain ⟨hdl, hdx, hsum, hB⟩ := HK.out
            refine ⟨j + 1, 0, ds ++ [x - cr], by go_num, rfl, by omega, by omega, by simp [hdl], lt_snoc10 hdx (by omega), HE.out, K.out.1, (hB.alloc hbs _).grown K.out.2 (by simp; omega) hob.out⟩
          case measure => simp [intOf]; omega
        · have e2 : decide ((x : Int) - cr < 0) = true := by rw [decide_eq_true_eq]; omega
          have HE := Lib.hid (HD.out (x + 10 - cr) 1 (by omega))
          go_wp2_with (at_builtin; refine wpList_append_nats rfl _ _ 38 Tryz.underlying38 rfl rfl w.heap.size _ j ds rfl (HR.out.alloc _) (some ⟨wr.heap.size, 0, none⟩) 1 1 [x + 10 - cr] rfl rfl (fun h => by cases h) (lsl_one _ _ (x + 10 - cr) (by omega)) (by omega) (by simp; omega) ?_; intro v' w1 hown' hgrow; have K := Lib.hid (And.intro hown' hgrow); clear hown' hgrow)
          go_roundw
          case rel =>
            obtain ⟨hdl, hdx, hsum, hB⟩ := HK.out
            refine ⟨j + 1, 1, ds ++ [x + 10 - cr], by go_num, rfl, by omega, by omega, by simp [hdl], lt_snoc10 hdx (by omega), HE.out, K.out.1, (hB.alloc hbs _).grown K.out.2 (by simp; omega) hob.out⟩
          case measure => simp [intOf]; omega
    · obtain rfl : j = M := by omega
      have hs := In.rsub_end (c := cr) (by rw [HM.out]; exact hdl) hdx hba (by rw [HM.out]; exact hsum)
      obtain ⟨o2, c2, rfl, k1, k2, k3, k4⟩ := own_nats hrow
      unfold maxLen at k2
      have CT := Lib.hid (rtrim_any o2 j c2 ds wr hdl hdx k1 (by omega) k3 k4)
      rw [hs] at CT
      have HBB := Lib.hid hB
      have HOB := Lib.hid (show ∀ n k, (Value.slice o2 n c2).ownBlock = some k → w.heap.size ≤ k from fun n k hk => hob.out k (by cases o2 <;> exact hk))
      clear HK hdl hdx hsum hrow hB hs hlt hj k1 k2 k3 k4 hob
      go_wp2_with fail
      with_reducible refine Calls.mono CT.out ?_
      rintro e w3 ⟨k, rfl, hn, hb⟩
      have HF := Lib.hid (And.intro hn (Below.andThen HBB.out hb))
      clear hn hb
      go_wp2_with fail
      go_ret
      exact ⟨_, rfl, HF.out.1, HF.out.2, HOB.out _⟩
theorem rminus_any (u v : Value) (a b : Nat) (w : World) (hu : DSl w u a) (hv : DSl w v b) (ha : (In.dg a).length ≤ 1000) (hba : b ≤ a) :
    Calls Tryz.prog 42 #[u, v] w fun e w' => ∃ r, e = .returned r ∧ DSl w' r (a - b) ∧ Below w.heap.size w w' :=
  (rminus_new u v a b w hu hv ha hba).mono fun _ _ ⟨r, h1, h2, h3, _⟩ => ⟨r, h1, h2, h3⟩
end Go.Proofs.YtjhnfejlkljkjaaGreatDoor
namespace Go.Proofs.YtjhnfejlkljkjaaGreatDoor
open Go.RowKit

theorem row_set_nat {w : World} {b : Nat} {t : TypeId} {l : List Nat} (h : Row w b t (l.map natV)) (q x : Nat) : Row (w.setCell ⟨b, q, none⟩ (natV x)) b t ((l.set q x).map natV) := by
  rw [List.map_set]
  exact h.set q (natV x)
set_option maxRecDepth 100000 in
set_option maxHeartbeats 4000000 in
theorem rtimes_any (u v : Value) (a b : Nat) (w : World) (hu : DSl w u a) (hv : DSl w v b) (ha : (In.dg a).length ≤ 400) (hb : (In.dg b).length ≤ 400) :
    Calls Tryz.prog 36 #[u, v] w fun e w' => ∃ r, e = .returned r ∧ DSl w' r (a * b) ∧ Below w.heap.size w w' := by
  obtain ⟨o, c, rfl, a1, a2, a3, a4⟩ := hu.ex
  obtain ⟨o', c', rfl, b1, b2, b3, b4⟩ := hv.ex
  obtain ⟨i0, hi, hz0, hz1, hz2⟩ := info_parts infoInt
  obtain ⟨M, hM⟩ : ∃ L, (In.dg a).length = L := ⟨_, rfl⟩
  obtain ⟨N, hN⟩ : ∃ L, (In.dg b).length = L := ⟨_, rfl⟩
  rw [hM] at ha a1 ⊢
  rw [hN] at hb b1 ⊢
  have hmk : (Instr.makeSlice 38 (.int .i64 ((M : Int) + N)) (.int .i64 ((M : Int) + N))).run Tryz.prog w = .ok (.slice (some ⟨w.heap.size, 0, none⟩) (M + N) (M + N)) (w.alloc (.cells (List.replicate (M + N) (.int .i64 0)).toArray 3)) := by
    have := run_make_row (P := Tryz.prog) w 38 3 i0 _ 8 Tryz.underlying38 hi hz0 hz1 hz2 rfl (M + N) (by omega) (by omega)
    exact_mod_cast this
  have HA := Lib.hid a4
  have HB := Lib.hid b4
  have HM := Lib.hid hM
  have HN := Lib.hid hN
  clear a4 b4 hM hN hu hv
  go_enter Tryz.func36, Tryz.ntmps36
  go_wp2_with fail
  have HR0 := Lib.hid (And.intro (row_zeros w (M + N) 3) (show Below w.heap.size w (w.alloc (.cells (Array.replicate (M + N) (.int .i64 0)) 3)) from (Below.refl _ _).alloc (Nat.le_refl _) _))
  clear hmk
  go_loopw [6] (fun iv wr => ∃ (i : Nat) (l : List Nat), iv = .int .i64 i ∧ i ≤ M ∧ l.length = M + N ∧ (∀ y ∈ l, y < 10) ∧ In.nv 10 l = a % 10 ^ i * b ∧ Row wr w.heap.size 3 (l.map natV) ∧ Below w.heap.size w wr) (fun iv _ => M - (intOf iv).toNat)
  case atStart => exact ⟨0, List.replicate (M + N) 0, rfl, Nat.zero_le _, by simp, (fun y hy => by have := (List.mem_replicate.1 hy).2; omega), by rw [In.nv_zeros, Nat.pow_zero, Nat.mod_one, Nat.zero_mul], by simpa [padL] using HR0.out.1, HR0.out.2⟩
  case round =>
    clear HR0
    obtain ⟨i, l, rfl, him, hll, hlx, hval, hR, hB⟩ := hrel
    by_cases hlt : i < M
    · have hx := In.dg_at (n := a) (i := i) (by rw [HM.out]; exact hlt)
      have lx : a / 10 ^ i % 10 < 10 := Nat.mod_lt _ (by decide)
      have HX := Lib.hid (show a / 10 ^ i % 10 = a / 10 ^ i % 10 from rfl)
      generalize hxd : a / 10 ^ i % 10 = x at hx lx HX
      have HXD := Lib.hid hxd
      have h0 : In.nv 10 l + 10 ^ (i + 0) * 0 = In.mulT a b i 0 := by rw [In.mulT_zero, Nat.mul_zero, Nat.add_zero]; exact hval
      have HS := Lib.hid (And.intro hll (And.intro hlx (And.intro h0 (And.intro hR hB))))
      clear hll hlx h0 hval hR hxd HX
      go_wp2_with fail
      go_loopw [7, 8] (fun cv kv wx => ∃ (k cr : Nat) (l : List Nat), kv = .int .i64 k ∧ cv = .int .i64 cr ∧ cr ≤ 9 ∧ k ≤ N + 1 ∧ (k = N + 1 → cr = 0) ∧ l.length = M + N ∧ (∀ y ∈ l, y < 10) ∧ In.nv 10 l + 10 ^ (i + k) * cr = In.mulT a b i k ∧ Row wx w.heap.size 3 (l.map natV) ∧ Below w.heap.size w wx) (fun _ kv _ => N + 1 - (intOf kv).toNat)
      case atStart => exact ⟨0, 0, l, rfl, rfl, by omega, by omega, fun _ => rfl, HS.out.1, HS.out.2.1, HS.out.2.2.1, HS.out.2.2.2.1, HS.out.2.2.2.2⟩
      case round =>
        clear HS hB
        obtain ⟨k, cr, l, rfl, rfl, hcr, hkN, hend, hll, hlx, hval, hR, hB⟩ := hrel
        rename World => wx
        have hdone : (N ≤ k ∧ cr = 0) ∨ ¬ (N ≤ k ∧ cr = 0) := Classical.em _
        rcases hdone with ⟨e1, rfl⟩ | hgo
        · have hv2 : In.nv 10 l = a % 10 ^ (i + 1) * b := by
            rw [Nat.mul_zero, Nat.add_zero] at hval
            rw [hval, In.mulT_end a i (by rw [HN.out]; exact e1)]
          have HF := Lib.hid (And.intro hll (And.intro hlx (And.intro hv2 (And.intro hR hB))))
          have d1 : decide ((k : Int) < N) = false := by rw [decide_eq_false_iff_not]; omega
          clear hll hlx hval hR hB hend hv2
          go_wp2_with fail
          go_roundw
          case rel => exact ⟨i + 1, l, by go_num, by omega, HF.out⟩
          case measure => simp [intOf]; omega
        · have hk2 : k ≤ N := by
            rcases Nat.lt_or_ge k (N + 1) with h | h
            · omega
            · have := hend (by omega); omega
          obtain ⟨q, hq⟩ : ∃ q, i + k = q := ⟨_, rfl⟩
          have hqlt : q < M + N := by omega
          rw [hq] at hval
          obtain ⟨old, ho⟩ : ∃ old, l[q]? = some old := ⟨_, List.getElem?_eq_getElem (by rw [hll]; exact hqlt)⟩
          have lo : old < 10 := hlx _ (List.mem_of_getElem? ho)
          have HD := Lib.hid (fun (n t : Nat) (hn : n = old + cr + t) (ht : t = x * (b / 10 ^ k % 10)) => show In.nv 10 (l.set q (n % 10)) + 10 ^ (i + (k + 1)) * (n / 10) = In.mulT a b i (k + 1) from by
            have h1 := In.rmul_step (t := t) ho hval
            rw [← hn] at h1
            rw [show i + (k + 1) = q + 1 by omega, h1, ← In.mulT_next, hq, HXD.out, ht])
          have HE := Lib.hid (fun (n : Nat) (h : In.nv 10 (l.set q (n % 10)) + 10 ^ (i + (k + 1)) * (n / 10) = In.mulT a b i (k + 1)) (hk : k + 1 = N + 1) => show n / 10 = 0 from by
            rcases Nat.eq_zero_or_pos (n / 10) with h0 | h0
            · exact h0
            · have := In.mulT_in h (by rw [HN.out]; omega) h0
              rw [HN.out] at this
              omega)
          have e1 : (i : Int) + k = (q : Int) := by omega
          have hc := (hR.cell q).trans (show (l.map natV)[q]? = some (natV old) from by rw [List.getElem?_map, ho]; rfl)
          have hf := hR.frozen q
          have HR := Lib.hid (And.intro hll (And.intro hlx (And.intro hR hB)))
          by_cases hkl : k < N
          · have hy := In.dg_at (n := b) (i := k) (by rw [HN.out]; exact hkl)
            have ly : b / 10 ^ k % 10 < 10 := Nat.mod_lt _ (by decide)
            generalize b / 10 ^ k % 10 = y at *
            have hp : x * y ≤ 81 := Nat.mul_le_mul (show x ≤ 9 by omega) (show y ≤ 9 by omega)
            have HXY := Lib.hid (show (((x * y : Nat)) : Int) = (x : Int) * y from by push_cast; rfl)
            have w2 : Value.int .i64 (wrap64 ((x : Int) * y)) = Value.int .i64 ((x * y : Nat) : Int) := by
              refine congrArg (Value.int .i64) ?_
              rw [← HXY.out]
              unfold wrap64
              omega
            generalize hpp : x * y = p at *
            have HPP := Lib.hid hpp
            rcases HA.out.next hB with h | ⟨p1, off, rfl, hp1, hcell⟩
            · rw [h] at hx; simp at hx
            rcases HB.out.next hB with h | ⟨p2, off', rfl, hp2, hcell'⟩
            · rw [h] at hy; simp at hy
            have c1 := hcell i x hx
            have c2 := hcell' k y hy
            have d1 : decide ((k : Int) < N) = true := by rw [decide_eq_true_eq]; omega
            clear hcell hcell' hy hpp hll hlx hval hR hB hend ho hq
            go_upto_region 11 with (fail)
            refine wp_region_kin (by kernel_rfl) (by kernel_rfl) wx.heap.size 0 (by simp) (fun hk => ?_)
            repeat (go_big_quiet_step (fail))
            refine wpQuiet_nil ?_
            clear hk
            intro W2 hb
            have hR2 := HR.out.2.2.1.next hb
            have HB3 := Lib.hid (Below.andThen HR.out.2.2.2 hb)
            have hc2 := (hb.cell (p := ⟨w.heap.size, q, none⟩) HR.out.2.2.1.lt).trans hc
            have hf2 := hR2.frozen q
            have HR2 := Lib.hid hR2
            clear hb hR2 hc hf c1 c2 hp1 hp2 w2
            go_wp2_with fail
            go_roundw
            case rel =>
              have h3 := HD.out (old + cr + p) p rfl rfl
              refine ⟨k + 1, (old + cr + p) / 10, l.set q ((old + cr + p) % 10), by go_num, by go_num, by omega, by omega, HE.out _ h3, by rw [List.length_set]; exact HR.out.1, In.set_lt HR.out.2.1 (Nat.mod_lt _ (by decide)), h3, ?_, HB3.out.setCell (by simp) _⟩
              exact_mod_cast row_set_nat HR2.out q ((old + cr + p) % 10)
            case measure => simp [intOf]; omega
          · obtain rfl : k = N := by omega
            have hy := In.dg_out (n := b) (i := k) (Nat.le_of_eq HN.out)
            rw [hy] at HD
            have d1 : decide ((k : Int) < k) = false := by simp
            have d3 : decide (0 < (cr : Int)) = true := by rw [decide_eq_true_eq]; omega
            clear hy hll hlx hval hR hB hend ho hq
            go_wp2_with fail
            go_roundw
            case rel =>
              have h3 := HD.out (old + cr) 0 (by omega) (by rw [Nat.mul_zero])
              refine ⟨k + 1, (old + cr) / 10, l.set q ((old + cr) % 10), by go_num, by go_num, by omega, by omega, HE.out _ h3, by rw [List.length_set]; exact HR.out.1, In.set_lt HR.out.2.1 (Nat.mod_lt _ (by decide)), h3, ?_, HR.out.2.2.2.setCell (by simp) _⟩
              exact_mod_cast row_set_nat HR.out.2.2.1 q ((old + cr) % 10)
            case measure => first | (simp [intOf]; done) | (simp [intOf]; omega)
    · obtain rfl : i = M := by omega
      have hs : In.nv 10 l = a * b := by rw [hval, In.dg_mod (by rw [HM.out]; exact Nat.le_refl _)]
      have CT := Lib.hid (rtrim_any (some ⟨w.heap.size, 0, none⟩) (i + N) (i + N) l wr hll hlx (Nat.le_refl _) (by omega) (fun h => by cases h) (row_sl hR))
      rw [hs] at CT
      have HBB := Lib.hid hB
      clear hll hlx hval hR hB hs hlt him
      go_wp2_with fail
      with_reducible refine Calls.mono CT.out ?_
      rintro e w3 ⟨k, rfl, hn, hb⟩
      have HF := Lib.hid (And.intro hn (Below.andThen HBB.out hb))
      clear hn hb
      go_wp2_with fail
      go_ret
      exact ⟨_, rfl, HF.out⟩
end Go.Proofs.YtjhnfejlkljkjaaGreatDoor
namespace Go.Proofs.YtjhnfejlkljkjaaGreatDoor
open Go.RowKit

theorem DSl.far {w : World} {p : Addr} {o : Option Addr} {L c k : Nat} (h : DSl w (.slice o L c) k) (hne : ∀ b, (Value.slice o L c).ownBlock = some b → b ≠ p.block) (v : Value) : DSl (w.setCell p v) (.slice o L c) k := by
  obtain ⟨o', c', e, h1, h2, h3, h4⟩ := h.ex
  cases e
  exact ⟨o, c, rfl, h1, h2, h3, h4.far (fun b off e _ => hne b (by rw [e]; rfl)) v⟩
/-- the number in a cell -/
def cellN (w : World) (b j : Nat) : Nat := match w.cell? ⟨b, j, none⟩ with | some (.int _ n) => n.toNat | _ => 0
theorem cellN_row {w : World} {b : Nat} {t : TypeId} {l : List Nat} {j x : Nat} (h : Row w b t (l.map natV)) (hx : l[j]? = some x) : cellN w b j = x := by
  unfold cellN
  rw [h.cell, List.getElem?_map, hx]
  simp
theorem mid_at (k : Nat) (m : Nat) (qs : List Nat) : (List.replicate k 0 ++ m :: qs)[k]? = some m := by
  rw [List.getElem?_append_right (by simp)]
  simp
theorem mid_set (k : Nat) (m x : Nat) (qs : List Nat) : (List.replicate k 0 ++ m :: qs).set k x = List.replicate k 0 ++ x :: qs := by
  rw [List.set_append_right _ _ (by simp)]
  simp
set_option maxRecDepth 100000 in
set_option maxHeartbeats 4000000 in
theorem rdivided_any (u v : Value) (a b : Nat) (w : World) (hu : DSl w u a) (hv : DSl w v b) (hb0 : 0 < b) (ha : (In.dg a).length ≤ 900) (hb : (In.dg b).length ≤ 900) :
    Calls Tryz.prog 40 #[u, v] w fun e w' => ∃ q r, e = .returned (.tuple #[q, r]) ∧ DSl w' q (a / b) ∧ DSl w' r (a % b) ∧ Below w.heap.size w w' := by
  obtain ⟨o, c, rfl, a1, a2, a3, a4⟩ := hu.ex
  have HV := Lib.hid hv
  obtain ⟨o', c', rfl, _⟩ := hv.ex
  obtain ⟨i0, hi, hz0, hz1, hz2⟩ := info_parts infoInt
  obtain ⟨L, hL⟩ : ∃ L, (In.dg a).length = L := ⟨_, rfl⟩
  generalize hLB : (In.dg b).length = LB at *
  rw [hL] at ha a1 ⊢
  have hmk := fun (W : World) => run_make_row (P := Tryz.prog) W 38 3 i0 _ 8 Tryz.underlying38 hi hz0 hz1 hz2 rfl L (by omega) (by omega)
  have HA := Lib.hid a4
  have HL := Lib.hid hL
  have HLB := Lib.hid hLB
  clear a4 hL hLB hu hv
  go_enter Tryz.func40, Tryz.ntmps40
  go_wp2_with fail
  have HR0 := Lib.hid (And.intro (row_zeros w L 3) (show Below w.heap.size w (w.alloc (.cells (Array.replicate L (.int .i64 0)) 3)) from (Below.refl _ _).alloc (Nat.le_refl _) _))
  clear hmk
  go_loopw [7, 8] (fun rv iv wr => ∃ (k : Nat) (qs : List Nat), iv = .int .i64 ((k : Int) - 1) ∧ k ≤ L ∧ DSl wr rv (a / 10 ^ k % b) ∧ qs.length = L - k ∧ (∀ x ∈ qs, x < 10) ∧ In.nv 10 qs = a / 10 ^ k / b ∧ Row wr w.heap.size 3 ((List.replicate k 0 ++ qs).map natV) ∧ Below w.heap.size w wr) (fun _ iv _ => (intOf iv + 1).toNat)
  case atStart =>
    have e : a / 10 ^ L = 0 := by rw [← HL.out, In.dg_top]
    exact ⟨L, [], rfl, Nat.le_refl _, by rw [e, Nat.zero_mod]; exact dsl_zero _, by simp, (fun x hx => by cases hx), by rw [e]; simp [In.nv], by rw [List.append_nil]; simpa [padL] using HR0.out.1, HR0.out.2⟩
  case round =>
    clear HR0
    obtain ⟨k, qs, rfl, hk, hru, hql, hqx, hqv, hR, hB⟩ := hrel
    obtain ⟨ro, rc, rfl, r1, r2, r3, r4⟩ := hru.ex
    cases k with
    | zero =>
      rw [Nat.pow_zero, Nat.div_one] at hqv hru
      rw [List.replicate_zero, List.nil_append] at hR
      rw [show ((0 : Nat) : Int) - 1 = -1 from rfl]
      have hql2 : qs.length = L := by omega
      have CT := Lib.hid (rtrim_any (some ⟨w.heap.size, 0, none⟩) L L qs wr hql2 hqx (Nat.le_refl _) (by omega) (fun h => by cases h) (row_sl hR))
      rw [hqv] at CT
      rw [Nat.pow_zero, Nat.div_one]
      have HRU := Lib.hid hru
      have HBB := Lib.hid hB
      clear hql hqx hqv hru hR hB hql2 HA hk r1 r2 r3 r4
      generalize (In.dg (a % b)).length = RL at *
      go_wp2_with fail
      with_reducible refine Calls.mono CT.out ?_
      rintro e w3 ⟨kq, rfl, hn, hb⟩
      have HF := Lib.hid (And.intro hn (And.intro (HRU.out.next hb) (Below.andThen HBB.out hb)))
      clear hn hb
      go_wp2_with fail
      go_ret2
      exact ⟨_, _, rfl, HF.out⟩
    | succ m =>
      rw [show ((m + 1 : Nat) : Int) - 1 = (m : Int) by omega]
      have hx := In.dg_at (n := a) (i := m) (by rw [HL.out]; omega)
      have lx : a / 10 ^ m % 10 < 10 := Nat.mod_lt _ (by decide)
      have HN := Lib.hid (In.rquo_next (a := a) (i := m) hb0)
      have HD := Lib.hid (In.rquo_digit (a := a) (i := m) hb0)
      have HRlt := Lib.hid (Nat.mod_lt (a / 10 ^ (m + 1)) hb0)
      generalize hR0 : a / 10 ^ (m + 1) % b = R0 at *
      generalize a / 10 ^ m % 10 = x at *
      have lR0 : (In.dg R0).length ≤ 900 := Nat.le_trans (In.dg_mono (Nat.le_of_lt HRlt.out)) (by rw [HLB.out]; exact hb)
      have HR4 := Lib.hid (And.intro r1 (And.intro r2 (And.intro r3 r4)))
      generalize hRL : (In.dg R0).length = RL at *
      have HRL := Lib.hid hRL
      have HK := Lib.hid (And.intro hql (And.intro hqx (And.intro hqv (And.intro hR hB))))
      rcases HA.out.next hB with h | ⟨p, off, rfl, hp, hcell⟩
      · rw [h] at hx; simp at hx
      have c1 := hcell m x hx
      have hsz := hB.size
      clear hcell hx hql hqx hqv hR hB hru r1 r2 r3 r4 hRL hR0
      have hmL : m < L := by omega
      go_wp2_with (at_builtin; refine wpList_append_nats rfl _ _ 38 Tryz.underlying38 rfl rfl wr.heap.size (.slice (some ⟨wr.heap.size, 0, none⟩) 1 1) 1 [x] rfl (made_one wr x (Nat.le_refl _) rfl) ro RL rc (In.dg R0) rfl HRL.out HR4.out.2.2.1 (HR4.out.2.2.2.next ((Below.refl _ _).alloc (Nat.le_refl _) _)) (by omega) (by simp) ?_; intro v' w2 hown' hgrow; have K := Lib.hid (And.intro hown' (((Below.refl wr.heap.size wr).alloc (Nat.le_refl _) (.cells #[natV x] 3)).grown hgrow (by simp) (fun k hk => by simp [Value.ownBlock] at hk; omega))); clear hown' hgrow)
      obtain ⟨g', c2, rfl, h1, h2, hg0⟩ := own_some K.out.1 (by omega)
      unfold maxLen at h2
      have hlx2 : ∀ y ∈ [x] ++ In.dg R0, y < 10 := fun y hy => by
        rcases List.mem_append.1 hy with h | h
        · rw [List.mem_singleton.1 h]; exact lx
        · exact In.dg_lt R0 y h
      have hv2 : In.nv 10 ([x] ++ In.dg R0) = R0 * 10 + x := by
        show x + 10 * In.nv 10 (In.dg R0) = _
        rw [In.nv_gr (by decide)]
        omega
      have CT := Lib.hid (rtrim_any (some ⟨g', 0, none⟩) (1 + RL) c2 ([x] ++ In.dg R0) w2 (by rw [List.length_append, HRL.out]; rfl) hlx2 h1 (by omega) (fun h => by cases h) (own_lsl K.out.1))
      rw [hv2] at CT
      have HG := Lib.hid hg0
      clear h1 h2 hg0 hlx2 hv2
      with_reducible refine Calls.mono CT.out ?_
      rintro e w3 ⟨kr, rfl, hn, hb3⟩
      have HS := Lib.hid (show DSl w3 (.slice (some ⟨g', 0, none⟩) kr c2) (R0 * 10 + x - 0 * b) ∧ (∀ blk, (Value.slice (some ⟨g', 0, none⟩) kr c2).ownBlock = some blk → blk ≠ w.heap.size) ∧ Row w3 w.heap.size 3 ((List.replicate m 0 ++ 0 :: qs).map natV) ∧ Below w.heap.size w w3 from by
        refine ⟨by rw [Nat.zero_mul, Nat.sub_zero]; exact hn, fun blk hblk => ?_, ?_, ?_⟩
        · have h : g' = blk := by simpa [Value.ownBlock] using hblk
          have := HG.out
          have := HK.out.2.2.2.1.lt
          omega
        · have h1 : List.replicate (m + 1) 0 ++ qs = List.replicate m 0 ++ (0 :: qs) := by rw [List.replicate_succ', List.append_assoc]; rfl
          rw [← h1]
          exact (HK.out.2.2.2.1.next K.out.2).next hb3
        · exact Below.andThen HK.out.2.2.2.2 (Below.andThen K.out.2 hb3))
      have HRd := Lib.hid (show R0 * 10 + x < b * 10 from by have := HRlt.out; omega)
      generalize R0 * 10 + x = R at *
      clear hn hb3 CT
      go_wp2_with fail
      go_loopw [7] (fun rv wx => ∃ (d : Nat), d * b ≤ R ∧ DSl wx rv (R - d * b) ∧ (∀ blk, rv.ownBlock = some blk → blk ≠ w.heap.size) ∧ Row wx w.heap.size 3 ((List.replicate m 0 ++ d :: qs).map natV) ∧ Below w.heap.size w wx) (fun _ wx => 10 - cellN wx w.heap.size m)
      case atStart => exact ⟨0, by omega, HS.out.1, HS.out.2.1, HS.out.2.2.1, HS.out.2.2.2⟩
      case round =>
        clear HS
        obtain ⟨d, hd, hrd, hrf, hR, hB⟩ := hrel
        rename World => wx
        obtain ⟨ro2, rc2, rfl, _⟩ := hrd.ex
        have hvx : DSl wx (.slice o' LB c') b := HV.out.next hB
        have lRd : (In.dg (R - d * b)).length ≤ 1000 := by
          have h1 := In.dg_mono (show R - d * b ≤ b * 10 by
            have := HRlt.out
            have := HRd.out
            omega)
          have h2 := In.dg_len_mul b 10
          have h3 : (In.dg 10).length = 2 := by decide
          have := HLB.out
          omega
        have CO := Lib.hid (rorder_any _ _ (R - d * b) b wx hrd hvx lRd (by rw [HLB.out]; omega))
        have hcN := cellN_row hR (mid_at m d qs)
        have HX := Lib.hid (And.intro hrd (And.intro hvx (And.intro hrf (And.intro hR hB))))
        have hcmp : (R - d * b < b ∧ decide (0 ≤ In.cmpN (R - d * b) b) = false) ∨ (b ≤ R - d * b ∧ decide (0 ≤ In.cmpN (R - d * b) b) = true) := by
          rcases Nat.lt_or_ge (R - d * b) b with h | h
          · exact .inl ⟨h, by rw [In.cmpN_lt h]; rfl⟩
          · refine .inr ⟨h, ?_⟩
            rw [decide_eq_true_eq]
            unfold In.cmpN
            rw [if_neg (by omega)]
            split <;> decide
        have HLD := Lib.hid lRd
        generalize hS : R - d * b = S at *
        have HS2 := Lib.hid hS
        generalize hc : In.cmpN S b = cm at *
        generalize hSL : (In.dg S).length = SL at *
        have HSL := Lib.hid hSL
        clear hSL
        clear hrd hvx lRd hrf hR hB hS hc
        go_wp2_with fail
        with_reducible refine Calls.mono CO.out ?_
        rintro e w4 ⟨rfl, hb4⟩
        have HB4 := Lib.hid hb4
        clear hb4
        rcases hcmp with ⟨hlt, d1⟩ | ⟨hge, d1⟩
        · go_wp2_with fail
          have hdq : R / b = d := Nat.div_eq_of_lt_le hd (by rw [Nat.add_mul]; have := HS2.out; omega)
          have hrm : S = R % b := by
            have h1 := Nat.mod_add_div R b
            rw [hdq, Nat.mul_comm] at h1
            have := HS2.out
            omega
          go_roundw
          case rel =>
            exact ⟨m, d :: qs, by go_num, by omega, by rw [HN.out.2, ← hrm]; exact HX.out.1.next HB4.out, by simp [HK.out.1]; omega, (fun y hy => by
              rcases List.mem_cons.1 hy with rfl | hy
              · rw [← hdq]; exact HD.out
              · exact HK.out.2.1 y hy), by rw [In.nv_cons, HK.out.2.2.1, HN.out.1, hdq]; omega, HX.out.2.2.2.1.next HB4.out, Below.andThen HX.out.2.2.2.2 HB4.out⟩
          case measure => simp [intOf]
        · have CM := Lib.hid (rminus_new _ _ S b w4 (HX.out.1.next HB4.out) (HX.out.2.1.next HB4.out) (by rw [HSL.out]; exact HLD.out) hge)
          go_wp2_with fail
          with_reducible refine Calls.mono CM.out ?_
          rintro e w5 ⟨r2, rfl, hn, hb5, hf⟩
          have hR5 := (HX.out.2.2.2.1.next HB4.out).next hb5
          have k1 := (hR5.cell m).trans (show _ = some (natV d) from by rw [List.getElem?_map, mid_at]; rfl)
          have k2 := hR5.frozen m
          obtain ⟨ro3, rc3, rfl, _⟩ := hn.ex
          have HZ := Lib.hid (And.intro hn (And.intro (show ∀ blk, (Value.slice ro3 (In.dg (S - b)).length rc3).ownBlock = some blk → blk ≠ w.heap.size from fun blk hk => by
            have h1 := hf blk hk
            have h2 := HB4.out.size
            have h3 := HX.out.2.2.2.1.lt
            omega) (And.intro hR5 (Below.andThen (Below.andThen HX.out.2.2.2.2 HB4.out) hb5))))
          have hd9 : d < 9 := by
            have h1 := HS2.out
            have h2 := HRd.out
            have h3 : (d + 1) * b < 10 * b := by rw [Nat.add_mul]; omega
            have := Nat.lt_of_mul_lt_mul_right h3
            omega
          have HD9 := Lib.hid hd9
          generalize (In.dg (S - b)).length = SL2 at *
          clear hn hb5 hf hR5 CM CO
          go_wp2_with fail
          have hr6 := row_set_nat HZ.out.2.2.1 m (d + 1)
          rw [mid_set] at hr6
          go_roundw
          case rel =>
            refine ⟨d + 1, ?_, ?_, HZ.out.2.1, by exact_mod_cast hr6, HZ.out.2.2.2.setCell (by simp) _⟩
            · have := HS2.out
              rw [Nat.add_mul]
              omega
            · have e : R - (d + 1) * b = S - b := by rw [← HS2.out, Nat.add_mul]; omega
              rw [e]
              exact HZ.out.1.far HZ.out.2.1 _
          case measure =>
            have h6 := cellN_row hr6 (mid_at m (d + 1) qs)
            have h7 : cellN (w5.setCell ⟨w.heap.size, m, none⟩ (natV (d + 1))) w.heap.size m = d + 1 := h6
            rw [hcN]
            have h8 := HD9.out
            first | (simp only [natV, Int.natCast_add, Int.natCast_one] at h7; rw [h7]; omega) | (push_cast at h7; omega)
end Go.Proofs.YtjhnfejlkljkjaaGreatDoor
