/- The reference implementation: quotients. -/
/- The reference implementation: the digits of a text. -/
/- The reference implementation: Valid. -/
import Derived.Test.YtlehjmanlccncaaGreatDoorIntGE
set_option linter.unusedVariables false
set_option linter.unusedSimpArgs false
namespace Go.Proofs.YtlehjmanlccncaaGreatDoor
open Go.RowKit

theorem DSl.far {w : World} {p : Addr} {o : Option Addr} {L c k : Nat} (h : DSl w (.slice o L c) k) (hne : ∀ b, (Value.slice o L c).ownBlock = some b → b ≠ p.block) (v : Value) : DSl (w.setCell p v) (.slice o L c) k := by
  obtain ⟨o', c', e, h1, h2, h3, h4⟩ := h.ex
  cases e
  exact ⟨o, c, rfl, h1, h2, h3, h4.far (fun b off e _ => hne b (by rw [e]; rfl)) v⟩
/-- the number in a cell -/
def cellN (w : World) (b j : Nat) : Nat := match w.cell? ⟨b, j, none⟩ with | some (.int _ n) => n.toNat | _ => 0
theorem cellN_row {w : World} {b : Nat} {t : TypeId} {l : List Nat} {j x : Nat} (h : Row w b t (l.map natV)) (hx : l[j]? = some x) : cellN w b j = x := by
  unfold cellN
  rw [h.cell, List.getElem?_map, hx]
  simp
theorem mid_at (k : Nat) (m : Nat) (qs : List Nat) : (List.replicate k 0 ++ m :: qs)[k]? = some m := by
  rw [List.getElem?_append_right (by simp)]
  simp
theorem mid_set (k : Nat) (m x : Nat) (qs : List Nat) : (List.replicate k 0 ++ m :: qs).set k x = List.replicate k 0 ++ x :: qs := by
  rw [List.set_append_right _ _ (by simp)]
  simp
set_option maxRecDepth 100000 in
set_option maxHeartbeats 4000000 in
theorem rdivided_any (u v : Value) (a b : Nat) (w : World) (hu : DSl w u a) (hv : DSl w v b) (hb0 : 0 < b) (ha : (In.dg a).length ≤ 900) (hb : (In.dg b).length ≤ 900) :
    Calls Tryz.prog 79 #[u, v] w fun e w' => ∃ q r, e = .returned (.tuple #[q, r]) ∧ DSl w' q (a / b) ∧ DSl w' r (a % b) ∧ Below w.heap.size w w' := by
  obtain ⟨o, c, rfl, a1, a2, a3, a4⟩ := hu.ex
  have HV := Lib.hid hv
  obtain ⟨o', c', rfl, _⟩ := hv.ex
  obtain ⟨i0, hi, hz0, hz1, hz2⟩ := info_parts infoInt
  obtain ⟨L, hL⟩ : ∃ L, (In.dg a).length = L := ⟨_, rfl⟩
  generalize hLB : (In.dg b).length = LB at *
  rw [hL] at ha a1 ⊢
  have hmk := fun (W : World) => run_make_row (P := Tryz.prog) W 40 3 i0 _ 8 Tryz.underlying40 hi hz0 hz1 hz2 rfl L (by omega) (by omega)
  have HA := Lib.hid a4
  have HL := Lib.hid hL
  have HLB := Lib.hid hLB
  clear a4 hL hLB hu hv
  go_enter Tryz.func79, Tryz.ntmps79
  go_wp2_with fail
  have HR0 := Lib.hid (And.intro (row_zeros w L 3) (show Below w.heap.size w (w.alloc (.cells (Array.replicate L (.int .i64 0)) 3)) from (Below.refl _ _).alloc (Nat.le_refl _) _))
  clear hmk
  go_loopw [7, 8] (fun rv iv wr => ∃ (k : Nat) (qs : List Nat), iv = .int .i64 ((k : Int) - 1) ∧ k ≤ L ∧ DSl wr rv (a / 10 ^ k % b) ∧ qs.length = L - k ∧ (∀ x ∈ qs, x < 10) ∧ In.nv 10 qs = a / 10 ^ k / b ∧ Row wr w.heap.size 3 ((List.replicate k 0 ++ qs).map natV) ∧ Below w.heap.size w wr) (fun _ iv _ => (intOf iv + 1).toNat)
  case atStart =>
    have e : a / 10 ^ L = 0 := by rw [← HL.out, In.dg_top]
    exact ⟨L, [], rfl, Nat.le_refl _, by rw [e, Nat.zero_mod]; exact dsl_zero _, by simp, (fun x hx => by cases hx), by rw [e]; simp [In.nv], by rw [List.append_nil]; simpa [padL] using HR0.out.1, HR0.out.2⟩
  case round =>
    clear HR0
    obtain ⟨k, qs, rfl, hk, hru, hql, hqx, hqv, hR, hB⟩ := hrel
    obtain ⟨ro, rc, rfl, r1, r2, r3, r4⟩ := hru.ex
    cases k with
    | zero =>
      rw [Nat.pow_zero, Nat.div_one] at hqv hru
      rw [List.replicate_zero, List.nil_append] at hR
      rw [show ((0 : Nat) : Int) - 1 = -1 from rfl]
      have hql2 : qs.length = L := by omega
      have CT := Lib.hid (rtrim_any (some ⟨w.heap.size, 0, none⟩) L L qs wr hql2 hqx (Nat.le_refl _) (by omega) (fun h => by cases h) (row_sl hR))
      rw [hqv] at CT
      rw [Nat.pow_zero, Nat.div_one]
      have HRU := Lib.hid hru
      have HBB := Lib.hid hB
      clear hql hqx hqv hru hR hB hql2 HA hk r1 r2 r3 r4
      generalize (In.dg (a % b)).length = RL at *
      go_wp2_with fail
      with_reducible refine Calls.mono CT.out ?_
      rintro e w3 ⟨kq, rfl, hn, hb⟩
      have HF := Lib.hid (And.intro hn (And.intro (HRU.out.next hb) (Below.andThen HBB.out hb)))
      clear hn hb
      go_wp2_with fail
      go_ret2
      exact ⟨_, _, rfl, HF.out⟩
    | succ m =>
      rw [show ((m + 1 : Nat) : Int) - 1 = (m : Int) by omega]
      have hx := In.dg_at (n := a) (i := m) (by rw [HL.out]; omega)
      have lx : a / 10 ^ m % 10 < 10 := Nat.mod_lt _ (by decide)
      have HN := Lib.hid (In.rquo_next (a := a) (i := m) hb0)
      have HD := Lib.hid (In.rquo_digit (a := a) (i := m) hb0)
      have HRlt := Lib.hid (Nat.mod_lt (a / 10 ^ (m + 1)) hb0)
      generalize hR0 : a / 10 ^ (m + 1) % b = R0 at *
      generalize a / 10 ^ m % 10 = x at *
      have lR0 : (In.dg R0).length ≤ 900 := Nat.le_trans (In.dg_mono (Nat.le_of_lt HRlt.out)) (by rw [HLB.out]; exact hb)
      have HR4 := Lib.hid (And.intro r1 (And.intro r2 (And.intro r3 r4)))
      generalize hRL : (In.dg R0).length = RL at *
      have HRL := Lib.hid hRL
      have HK := Lib.hid (And.intro hql (And.intro hqx (And.intro hqv (And.intro hR hB))))
      rcases HA.out.next hB with h | ⟨p, off, rfl, hp, hcell⟩
      · rw [h] at hx; simp at hx
      have c1 := hcell m x hx
      have hsz := hB.size
      clear hcell hx hql hqx hqv hR hB hru r1 r2 r3 r4 hRL hR0
      have hmL : m < L := by omega
      go_wp2_with (at_builtin; refine wpList_append_nats rfl _ _ 40 Tryz.underlying40 rfl rfl wr.heap.size (.slice (some ⟨wr.heap.size, 0, none⟩) 1 1) 1 [x] rfl (made_one wr x (Nat.le_refl _) rfl) ro RL rc (In.dg R0) rfl HRL.out HR4.out.2.2.1 (HR4.out.2.2.2.next ((Below.refl _ _).alloc (Nat.le_refl _) _)) (by omega) (by simp) ?_; intro v' w2 hown' hgrow; have K := Lib.hid (And.intro hown' (((Below.refl wr.heap.size wr).alloc (Nat.le_refl _) (.cells #[natV x] 3)).grown hgrow (by simp) (fun k hk => by simp [Value.ownBlock] at hk; omega))); clear hown' hgrow)
      obtain ⟨g', c2, rfl, h1, h2, hg0⟩ := own_some K.out.1 (by omega)
      unfold maxLen at h2
      have hlx2 : ∀ y ∈ [x] ++ In.dg R0, y < 10 := fun y hy => by
        rcases List.mem_append.1 hy with h | h
        · rw [List.mem_singleton.1 h]; exact lx
        · exact In.dg_lt R0 y h
      have hv2 : In.nv 10 ([x] ++ In.dg R0) = R0 * 10 + x := by
        show x + 10 * In.nv 10 (In.dg R0) = _
        rw [In.nv_gr (by decide)]
        omega
      have CT := Lib.hid (rtrim_any (some ⟨g', 0, none⟩) (1 + RL) c2 ([x] ++ In.dg R0) w2 (by rw [List.length_append, HRL.out]; rfl) hlx2 h1 (by omega) (fun h => by cases h) (own_lsl K.out.1))
      rw [hv2] at CT
      have HG := Lib.hid hg0
      clear h1 h2 hg0 hlx2 hv2
      with_reducible refine Calls.mono CT.out ?_
      rintro e w3 ⟨kr, rfl, hn, hb3⟩
      have HS := Lib.hid (show DSl w3 (.slice (some ⟨g', 0, none⟩) kr c2) (R0 * 10 + x - 0 * b) ∧ (∀ blk, (Value.slice (some ⟨g', 0, none⟩) kr c2).ownBlock = some blk → blk ≠ w.heap.size) ∧ Row w3 w.heap.size 3 ((List.replicate m 0 ++ 0 :: qs).map natV) ∧ Below w.heap.size w w3 from by
        refine ⟨by rw [Nat.zero_mul, Nat.sub_zero]; exact hn, fun blk hblk => ?_, ?_, ?_⟩
        · have h : g' = blk := by simpa [Value.ownBlock] using hblk
          have := HG.out
          have := HK.out.2.2.2.1.lt
          omega
        · have h1 : List.replicate (m + 1) 0 ++ qs = List.replicate m 0 ++ (0 :: qs) := by rw [List.replicate_succ', List.append_assoc]; rfl
          rw [← h1]
          exact (HK.out.2.2.2.1.next K.out.2).next hb3
        · exact Below.andThen HK.out.2.2.2.2 (Below.andThen K.out.2 hb3))
      have HRd := Lib.hid (show R0 * 10 + x < b * 10 from by have := HRlt.out; omega)
      generalize R0 * 10 + x = R at *
      clear hn hb3 CT
      go_wp2_with fail
      go_loopw [7] (fun rv wx => ∃ (d : Nat), d * b ≤ R ∧ DSl wx rv (R - d * b) ∧ (∀ blk, rv.ownBlock = some blk → blk ≠ w.heap.size) ∧ Row wx w.heap.size 3 ((List.replicate m 0 ++ d :: qs).map natV) ∧ Below w.heap.size w wx) (fun _ wx => 10 - cellN wx w.heap.size m)
      case atStart => exact ⟨0, by omega, HS.out.1, HS.out.2.1, HS.out.2.2.1, HS.out.2.2.2⟩
      case round =>
        clear HS
        obtain ⟨d, hd, hrd, hrf, hR, hB⟩ := hrel
        rename World => wx
        obtain ⟨ro2, rc2, rfl, _⟩ := hrd.ex
        have hvx : DSl wx (.slice o' LB c') b := HV.out.next hB
        have lRd : (In.dg (R - d * b)).length ≤ 1000 := by
          have h1 := In.dg_mono (show R - d * b ≤ b * 10 by
            have := HRlt.out
            have := HRd.out
            omega)
          have h2 := In.dg_len_mul b 10
          have h3 : (In.dg 10).length = 2 := by decide
          have := HLB.out
          omega
        have CO := Lib.hid (rorder_any _ _ (R - d * b) b wx hrd hvx lRd (by rw [HLB.out]; omega))
        have hcN := cellN_row hR (mid_at m d qs)
        have HX := Lib.hid (And.intro hrd (And.intro hvx (And.intro hrf (And.intro hR hB))))
        have hcmp : (R - d * b < b ∧ decide (0 ≤ In.cmpN (R - d * b) b) = false) ∨ (b ≤ R - d * b ∧ decide (0 ≤ In.cmpN (R - d * b) b) = true) := by
          rcases Nat.lt_or_ge (R - d * b) b with h | h
          · exact .inl ⟨h, by rw [In.cmpN_lt h]; rfl⟩
          · refine .inr ⟨h, ?_⟩
            rw [decide_eq_true_eq]
            unfold In.cmpN
            rw [if_neg (by omega)]
            split <;> decide
        have HLD := Lib.hid lRd
        generalize hS : R - d * b = S at *
        have HS2 := Lib.hid hS
        generalize hc : In.cmpN S b = cm at *
        generalize hSL : (In.dg S).length = SL at *
        have HSL := Lib.hid hSL
        clear hSL
        clear hrd hvx lRd hrf hR hB hS hc
        go_wp2_with fail
        with_reducible refine Calls.mono CO.out ?_
        rintro e w4 ⟨rfl, hb4⟩
        have HB4 := Lib.hid hb4
        clear hb4
        rcases hcmp with ⟨hlt, d1⟩ | ⟨hge, d1⟩
        · go_wp2_with fail
          have hdq : R / b = d := Nat.div_eq_of_lt_le hd (by rw [Nat.add_mul]; have := HS2.out; omega)
          have hrm : S = R % b := by
            have h1 := Nat.mod_add_div R b
            rw [hdq, Nat.mul_comm] at h1
            have := HS2.out
            omega
          go_roundw
          case rel =>
            exact ⟨m, d :: qs, by go_num, by omega, by rw [HN.out.2, ← hrm]; exact HX.out.1.next HB4.out, by simp [HK.out.1]; omega, (fun y hy => by
              rcases List.mem_cons.1 hy with rfl | hy
              · rw [← hdq]; exact HD.out
              · exact HK.out.2.1 y hy), by rw [In.nv_cons, HK.out.2.2.1, HN.out.1, hdq]; omega, HX.out.2.2.2.1.next HB4.out, Below.andThen HX.out.2.2.2.2 HB4.out⟩
          case measure => simp [intOf]
        · have CM := Lib.hid (rminus_new _ _ S b w4 (HX.out.1.next HB4.out) (HX.out.2.1.next HB4.out) (by rw [HSL.out]; exact HLD.out) hge)
          go_wp2_with fail
          with_reducible refine Calls.mono CM.out ?_
          rintro e w5 ⟨r2, rfl, hn, hb5, hf⟩
          have hR5 := (HX.out.2.2.2.1.next HB4.out).next hb5
          have k1 := (hR5.cell m).trans (show _ = some (natV d) from by rw [List.getElem?_map, mid_at]; rfl)
          have k2 := hR5.frozen m
          obtain ⟨ro3, rc3, rfl, _⟩ := hn.ex
          have HZ := Lib.hid (And.intro hn (And.intro (show ∀ blk, (Value.slice ro3 (In.dg (S - b)).length rc3).ownBlock = some blk → blk ≠ w.heap.size from fun blk hk => by
            have h1 := hf blk hk
            have h2 := HB4.out.size
            have h3 := HX.out.2.2.2.1.lt
            omega) (And.intro hR5 (Below.andThen (Below.andThen HX.out.2.2.2.2 HB4.out) hb5))))
          have hd9 : d < 9 := by
            have h1 := HS2.out
            have h2 := HRd.out
            have h3 : (d + 1) * b < 10 * b := by rw [Nat.add_mul]; omega
            have := Nat.lt_of_mul_lt_mul_right h3
            omega
          have HD9 := Lib.hid hd9
          generalize (In.dg (S - b)).length = SL2 at *
          clear hn hb5 hf hR5 CM CO
          go_wp2_with fail
          have hr6 := row_set_nat HZ.out.2.2.1 m (d + 1)
          rw [mid_set] at hr6
          go_roundw
          case rel =>
            refine ⟨d + 1, ?_, ?_, HZ.out.2.1, by exact_mod_cast hr6, HZ.out.2.2.2.setCell (by simp) _⟩
            · have := HS2.out
              rw [Nat.add_mul]
              omega
            · have e : R - (d + 1) * b = S - b := by rw [← HS2.out, Nat.add_mul]; omega
              rw [e]
              exact HZ.out.1.far HZ.out.2.1 _
          case measure =>
            have h6 := cellN_row hr6 (mid_at m (d + 1) qs)
            have h7 : cellN (w5.setCell ⟨w.heap.size, m, none⟩ (natV (d + 1))) w.heap.size m = d + 1 := h6
            rw [hcN]
            have h8 := HD9.out
            first | (simp only [natV, Int.natCast_add, Int.natCast_one] at h7; rw [h7]; omega) | (push_cast at h7; omega)
end Go.Proofs.YtlehjmanlccncaaGreatDoor
set_option linter.unusedVariables false
set_option linter.unusedSimpArgs false
namespace Go.Proofs.YtlehjmanlccncaaGreatDoor
open Go.RowKit

theorem digit_at {d : ByteArray} {u m : Nat} (h0 : u ≠ 0) (hd : d.data.toList = Lib.decDigits u) (hm : m < (In.dg u).length) : ∃ (x : Nat) (h : m < d.size), (In.dg u)[(In.dg u).length - 1 - m]? = some x ∧ (d[m]'h).toNat = 48 + x ∧ x < 10 := by
  have hm2 : (In.dg u).length - 1 - m < (In.dg u).length := by omega
  obtain ⟨x, hx⟩ : ∃ x, (In.dg u)[(In.dg u).length - 1 - m]? = some x := ⟨_, List.getElem?_eq_getElem hm2⟩
  have lx : x < 10 := In.dg_lt u x (List.mem_of_getElem? hx)
  have hl : d.data.toList[m]? = some (UInt8.ofNat (48 + x)) := by
    rw [hd, In.dg_dec u h0, List.getElem?_reverse (by rw [List.length_map]; exact hm), List.length_map, List.getElem?_map, hx]
    rfl
  have hs : m < d.size := by
    have := (List.getElem?_eq_some_iff.1 hl).1
    simpa using this
  refine ⟨x, hs, hx, ?_, lx⟩
  have h2 := ba_at d m hs
  rw [hl] at h2
  rw [← Option.some.inj h2]
  exact (In.ofNat_dig lx).2.2
theorem dec_len {u : Nat} (h0 : u ≠ 0) : (Lib.decDigits u).length = (In.dg u).length := by rw [In.dg_dec u h0]; simp
theorem dec_one {u : Nat} (h0 : u ≠ 0) : Lib.decDigits u ≠ [48] := by
  obtain ⟨c, r, h1, h2⟩ := In.dec_head u h0
  rw [h1]
  intro h
  exact h2 (List.cons.inj h).1
theorem str_beq (d : ByteArray) : (d.toList == ([48] : List UInt8)) = decide (d.data.toList = [48]) := by rw [ByteArray.toList_eq, Bool.eq_iff_iff]; simp
theorem tail_list (s : ByteArray) : (s.extract 1 s.size).data.toList = s.data.toList.tail := by
  rw [ext_list, List.take_of_length_le (by simp), List.drop_one]
set_option maxRecDepth 100000 in
set_option maxHeartbeats 2000000 in
theorem rdigits_any (s : ByteArray) (z : Int) (w : World) (hs : In.num s = some z) :
    Calls Tryz.prog 71 #[.string s] w fun e w' => ∃ v, e = .returned (.tuple #[.bool (In.neg z), v]) ∧ DSl w' v z.natAbs ∧ Below w.heap.size w w' := by
  obtain ⟨i0, hi, hz0, hz1, hz2⟩ := info_parts infoInt
  obtain ⟨hsx, hfit⟩ := In.num_some hs
  have hfit : z.natAbs < 10 ^ 200 := hfit
  have hl := In.txt_list z
  rw [← hsx] at hl
  unfold In.txtL Lib.itoa at hl
  clear hs hsx
  obtain ⟨u, hu⟩ : ∃ u, u = z.natAbs := ⟨_, rfl⟩
  by_cases hz : z < 0
  · rw [if_pos hz, ← hu] at hl
    have hneg : In.neg z = true := decide_eq_true hz
    rw [hneg]
    rw [← hu] at hfit ⊢
    have hp : 0 < s.size := by
      have : 0 < s.data.toList.length := by rw [hl]; simp
      simpa using this
    have i1 := fun (w : World) => run_index_at (P := Tryz.prog) w 9 s .i64 0 rfl hp
    have h45 : (s[0]'hp) = 45 := by
      have h1 := ba_at s 0 hp
      rw [hl] at h1
      exact (Option.some.inj h1).symm
    rw [show ((0 : Nat) : Int) = 0 from rfl, h45, show ((45 : UInt8).toNat : Int) = 45 from rfl] at i1
    have hu0 : u ≠ 0 := by omega
    obtain ⟨d, hd⟩ : ∃ d, d = s.extract 1 s.size := ⟨_, rfl⟩
    have hdl := tail_list s
    rw [← hd, hl, List.tail_cons] at hdl
    replace hl := hdl
    have he : s.extract 1 s.size = d := hd.symm
    clear hdl hd h45 hneg hz
    ·
      have hb := str_beq d
      rw [hl, decide_eq_false (dec_one hu0)] at hb
      have hsz : d.size = (In.dg u).length := by
        have : d.data.toList.length = (In.dg u).length := by rw [hl, dec_len hu0]
        simpa using this
      have HAT := Lib.hid (fun m (hm : m < (In.dg u).length) => digit_at hu0 hl hm)
      have hle : (In.dg u).length ≤ 200 := In.dg_len_le hfit
      obtain ⟨L, hL⟩ : ∃ L, (In.dg u).length = L := ⟨_, rfl⟩
      rw [hL] at hsz HAT hle
      have HL := Lib.hid hL
      clear hL hl hfit hu
      go_enter Tryz.func71, Tryz.ntmps71
      go_wp2_with fail
      go_loopw [5, 6] (fun ov iv wr => ∃ k : Nat, k ≤ L ∧ iv = .int .i64 ((k : Int) - 1) ∧ wr.ownsRow w.heap.size 3 1 ov (L - k) (((In.dg u).take (L - k)).map natV) ∧ Below w.heap.size w wr) (fun _ iv _ => (intOf iv + 1).toNat)
      case atStart => exact ⟨L, Nat.le_refl _, by first | rfl | go_num, by rw [Nat.sub_self, List.take_zero]; exact World.ownsRow_nil _ _ _ _, Below.refl _ _⟩
      case round =>
        obtain ⟨k, hk, rfl, hrow, hB⟩ := hrel
        cases k with
        | zero =>
          rw [show ((0 : Nat) : Int) - 1 = -1 from rfl]
          rw [Nat.sub_zero, List.take_of_length_le (Nat.le_of_eq HL.out)] at hrow
          obtain ⟨o, c, rfl, k1, k2, k3, k4⟩ := own_nats hrow
          unfold maxLen at k2
          have HF := Lib.hid (DSl.mk' HL.out k1 (by omega) k3 k4)
          have HB := Lib.hid hB
          clear hB hrow k1 k2 k3 k4
          go_wp2_with fail
          go_ret2
          exact ⟨_, rfl, HF.out, HB.out⟩
        | succ m =>
          rw [show ((m + 1 : Nat) : Int) - 1 = (m : Int) by omega]
          obtain ⟨x, hm, hx, hc, lx⟩ := HAT.out m (by omega)
          have i2 := fun (w : World) => run_index_at (P := Tryz.prog) w 9 d .i64 m rfl hm
          have HN := Lib.hid (show (In.dg u).take (L - m) = (In.dg u).take (L - (m + 1)) ++ [x] from by
            rw [show L - m = L - 1 - m + 1 by omega, show L - (m + 1) = L - 1 - m by omega, List.take_add_one, hx, Option.toList_some])
          generalize (d[m]'hm).toNat = c at *
          have HC := Lib.hid hc
          have hc1 : 48 ≤ c := by omega
          have hc2 : c ≤ 57 := by omega
          have w1 : IntKind.u8.wrap ((c : Int) - 48) = (c : Int) - 48 := by simp [IntKind.wrap, IntKind.bits, IntKind.signed]; omega
          have hob := Lib.hid (own_block hrow)
          have hbs := hB.size
          have HR := Lib.hid hrow
          have HB := Lib.hid hB
          clear hx hc hrow hB
          go_wp2_with (at_builtin; refine wpList_append_nats rfl _ _ 40 Tryz.underlying40 rfl rfl w.heap.size _ (L - (m + 1)) ((In.dg u).take (L - (m + 1))) rfl (HR.out.alloc _) (some ⟨wr.heap.size, 0, none⟩) 1 1 [x] rfl rfl (fun h => by cases h) (lsl_one _ _ x (by have := HC.out; omega)) (by omega) (by simp; omega) ?_; intro v' w1 hown' hgrow; have K := Lib.hid (And.intro hown' hgrow); clear hown' hgrow)
          go_roundw
          case rel => exact ⟨m, by omega, by go_num, own_is K.out.1 (by omega) (by rw [HN.out]), (HB.out.alloc hbs _).grown K.out.2 (by simp; omega) hob.out⟩
          case measure => simp [intOf]
  · rw [if_neg hz] at hl
    have hneg : In.neg z = false := decide_eq_false hz
    rw [hneg]
    rw [show z.toNat = z.natAbs by omega, ← hu] at hl
    rw [← hu] at hfit ⊢
    have h45 : s.data.toList.head? ≠ some 45 := by rw [hl]; exact In.head_dec u
    have hp : 0 < s.size := by
      have := List.length_pos_iff.2 (In.dec_ne u)
      rw [← hl] at this
      simpa using this
    have h45' : ((s[0]'hp).toNat : Int) ≠ 45 := by
      intro h
      apply h45
      rw [List.head?_eq_getElem?, ba_at s 0 hp]
      congr 1
      apply UInt8.toNat_inj.1
      show _ = 45
      omega
    have i1 := fun (w : World) => run_index_at (P := Tryz.prog) w 9 s .i64 0 rfl hp
    rw [show ((0 : Nat) : Int) = 0 from rfl] at i1
    generalize (s[0]'hp).toNat = c0 at *
    have dd : decide ((c0 : Int) = 45) = false := decide_eq_false h45'
    have d3 : ((c0 : Int) == 45) = false := by simpa using h45'
    clear h45 hneg hz
    by_cases hu0 : u = 0
    · have hb := str_beq s
      rw [hl, hu0, In.dec_zero, decide_eq_true rfl] at hb
      have hs1 : s.size = 1 := by
        have : s.data.toList.length = 1 := by rw [hl, hu0, In.dec_zero]; rfl
        simpa using this
      have HU := Lib.hid hu0
      clear hl hu0 hfit hu
      go_enter Tryz.func71, Tryz.ntmps71
      go_wp2_with fail
      go_loopw [5, 6] (fun ov iv wr => ov = .slice none 0 0 ∧ iv = .int .i64 0 ∧ Below w.heap.size w wr) (fun _ _ _ => 0)
      case atStart => exact ⟨rfl, by first | rfl | go_num, Below.refl _ _⟩
      case round =>
        obtain ⟨rfl, rfl, hB⟩ := hrel
        have HB := Lib.hid hB
        clear hB
        go_wp2_with fail
        go_ret2
        exact ⟨_, rfl, by rw [HU.out]; exact dsl_zero _, HB.out⟩
    · have hb := str_beq s
      rw [hl, decide_eq_false (dec_one hu0)] at hb
      have hsz : s.size = (In.dg u).length := by
        have : s.data.toList.length = (In.dg u).length := by rw [hl, dec_len hu0]
        simpa using this
      have HAT := Lib.hid (fun m (hm : m < (In.dg u).length) => digit_at hu0 hl hm)
      have hle : (In.dg u).length ≤ 200 := In.dg_len_le hfit
      obtain ⟨L, hL⟩ : ∃ L, (In.dg u).length = L := ⟨_, rfl⟩
      rw [hL] at hsz HAT hle
      have HL := Lib.hid hL
      clear hL hl hfit hu
      go_enter Tryz.func71, Tryz.ntmps71
      go_wp2_with fail
      go_loopw [5, 6] (fun ov iv wr => ∃ k : Nat, k ≤ L ∧ iv = .int .i64 ((k : Int) - 1) ∧ wr.ownsRow w.heap.size 3 1 ov (L - k) (((In.dg u).take (L - k)).map natV) ∧ Below w.heap.size w wr) (fun _ iv _ => (intOf iv + 1).toNat)
      case atStart => exact ⟨L, Nat.le_refl _, by first | rfl | go_num, by rw [Nat.sub_self, List.take_zero]; exact World.ownsRow_nil _ _ _ _, Below.refl _ _⟩
      case round =>
        obtain ⟨k, hk, rfl, hrow, hB⟩ := hrel
        cases k with
        | zero =>
          rw [show ((0 : Nat) : Int) - 1 = -1 from rfl]
          rw [Nat.sub_zero, List.take_of_length_le (Nat.le_of_eq HL.out)] at hrow
          obtain ⟨o, c, rfl, k1, k2, k3, k4⟩ := own_nats hrow
          unfold maxLen at k2
          have HF := Lib.hid (DSl.mk' HL.out k1 (by omega) k3 k4)
          have HB := Lib.hid hB
          clear hB hrow k1 k2 k3 k4
          go_wp2_with fail
          go_ret2
          exact ⟨_, rfl, HF.out, HB.out⟩
        | succ m =>
          rw [show ((m + 1 : Nat) : Int) - 1 = (m : Int) by omega]
          obtain ⟨x, hm, hx, hc, lx⟩ := HAT.out m (by omega)
          have i2 := fun (w : World) => run_index_at (P := Tryz.prog) w 9 s .i64 m rfl hm
          have HN := Lib.hid (show (In.dg u).take (L - m) = (In.dg u).take (L - (m + 1)) ++ [x] from by
            rw [show L - m = L - 1 - m + 1 by omega, show L - (m + 1) = L - 1 - m by omega, List.take_add_one, hx, Option.toList_some])
          generalize (s[m]'hm).toNat = c at *
          have HC := Lib.hid hc
          have hc1 : 48 ≤ c := by omega
          have hc2 : c ≤ 57 := by omega
          have w1 : IntKind.u8.wrap ((c : Int) - 48) = (c : Int) - 48 := by simp [IntKind.wrap, IntKind.bits, IntKind.signed]; omega
          have hob := Lib.hid (own_block hrow)
          have hbs := hB.size
          have HR := Lib.hid hrow
          have HB := Lib.hid hB
          clear hx hc hrow hB
          go_wp2_with (at_builtin; refine wpList_append_nats rfl _ _ 40 Tryz.underlying40 rfl rfl w.heap.size _ (L - (m + 1)) ((In.dg u).take (L - (m + 1))) rfl (HR.out.alloc _) (some ⟨wr.heap.size, 0, none⟩) 1 1 [x] rfl rfl (fun h => by cases h) (lsl_one _ _ x (by have := HC.out; omega)) (by omega) (by simp; omega) ?_; intro v' w1 hown' hgrow; have K := Lib.hid (And.intro hown' hgrow); clear hown' hgrow)
          go_roundw
          case rel => exact ⟨m, by omega, by go_num, own_is K.out.1 (by omega) (by rw [HN.out]), (HB.out.alloc hbs _).grown K.out.2 (by simp; omega) hob.out⟩
          case measure => simp [intOf]
end Go.Proofs.YtlehjmanlccncaaGreatDoor
set_option linter.unusedVariables false
set_option linter.unusedSimpArgs false
namespace Go.Proofs.YtlehjmanlccncaaGreatDoor
open Go.RowKit

theorem dl_tail {l : List UInt8} (h : l.head? = some 45) : In.dl l = l.tail := if_pos h
theorem dl_same {l : List UInt8} (h : l.head? ≠ some 45) : In.dl l = l := if_neg h
set_option maxRecDepth 100000 in
set_option maxHeartbeats 4000000 in
theorem rvalid_any (s : ByteArray) (w : World) (hmax : s.size ≤ maxLen) : Calls Tryz.prog 59 #[.string s] w fun e w' => e = .returned (.bool (In.validL s.data.toList)) ∧ w = w' := by
  obtain ⟨V, hV⟩ : ∃ V, V = In.validL s.data.toList := ⟨_, rfl⟩
  rw [← hV]
  have HV := Lib.hid hV
  unfold maxLen at hmax
  clear hV
  rcases Nat.eq_zero_or_pos s.size with h0 | hp
  · have hs : s.data.toList = [] := List.eq_nil_of_length_eq_zero (by simpa using h0)
    have hV : V = false := by rw [HV.out, hs]; rfl
    have HV2 := Lib.hid hV
    clear HV hs hV
    go_enter Tryz.func59, Tryz.ntmps59
    go_wp2_with fail
    go_loopw [3] (fun iv wr => iv = .int .i64 0 ∧ wr = w) (fun _ _ => 0)
    case atStart => exact ⟨by first | rfl | go_num, rfl⟩
    case round =>
      obtain ⟨rfl, rfl⟩ := hrel
      go_wp2_with fail
      go_ret
      exact ⟨retv (vbool HV2.out.symm), rfl⟩
  have hb := str_beq s
  have i1 := fun (w : World) => run_index_at (P := Tryz.prog) w 9 s .i64 0 rfl hp
  rw [show ((0 : Nat) : Int) = 0 from rfl] at i1
  have hh : s.data.toList.head? = some (s[0]'hp) := by rw [List.head?_eq_getElem?, ba_at s 0 hp]
  have d9 : decide (0 < (s.size : Int)) = true := by rw [decide_eq_true_eq]; omega
  by_cases h45 : (s[0]'hp) = 45
  · have h45' : s.data.toList.head? = some 45 := by rw [hh, h45]
    rw [h45, show ((45 : UInt8).toNat : Int) = 45 from rfl] at i1
    obtain ⟨d, hd⟩ : ∃ d, d = s.extract 1 s.size := ⟨_, rfl⟩
    have hdl := tail_list s
    rw [← hd, ← dl_tail h45'] at hdl
    have he : s.extract 1 s.size = d := hd.symm
    have hdm : d.size ≤ s.size := by rw [hd, ByteArray.size_extract]; omega
    have hds : d.size = (In.dl s.data.toList).length := by rw [← hdl]; simp
    have HVN := Lib.hid (fun (h : d.size = 0) => show V = false from by rw [HV.out]; exact In.v_nil (List.eq_nil_of_length_eq_zero (by rw [← hds]; exact h)))
    have HVL := Lib.hid (fun (h : 200 < d.size) => show V = false from by rw [HV.out]; exact In.v_long (by rw [← hds]; exact h))
    have HVD := Lib.hid (fun (c : UInt8) (hc : c ∈ d.data.toList) (h : In.isDig c = false) => show V = false from by rw [HV.out]; exact In.v_dig (by rw [← hdl]; exact hc) h)
    have hns : s.data.toList ≠ [48] := fun h => by rw [h] at h45'; cases h45'
    have HVA := Lib.hid (fun (h0 : 0 < d.size) (h1 : d.size ≤ 200) (h2 : ∀ c ∈ d.data.toList, In.isDig c = true) => show V = (decide (d.data.toList.head? ≠ some 48) || false) from by
      rw [HV.out, In.v_all (fun h => by rw [hds, h] at h0; cases h0) (by rw [← hds]; exact h1) (by rw [← hdl]; exact h2), ← hdl, decide_eq_false hns])
    have hbd := str_beq d
    cases hB : decide (d.data.toList = [48]) with
    | true =>
      rw [hB] at hbd
      have hz := of_decide_eq_true hB
      have HE := Lib.hid (show V = false from by
        rw [HVA.out (by have : 0 < d.data.toList.length := by rw [hz]; decide
                        simpa using this) (by have : d.data.toList.length ≤ 200 := by rw [hz]; decide
                                              simpa using this) (by rw [hz]; decide), hz]
        rfl)
      clear HVN HVL HVD HVA HV hdl hds hd hz hB hns h45 h45' hh
      go_enter Tryz.func59, Tryz.ntmps59
      go_wp2_with fail
      go_ret
      exact ⟨retv (vbool HE.out.symm), rfl⟩
    | false =>
    rw [hB] at hbd
    clear HV hdl hds hd hB hns h45 h45' hh
    go_enter Tryz.func59, Tryz.ntmps59
    go_wp2_with fail
    go_loopw [3] (fun iv wr => ∃ k : Nat, k ≤ d.size ∧ iv = .int .i64 k ∧ wr = w ∧ ∀ j c, j < k → d.data.toList[j]? = some c → In.isDig c = true) (fun iv _ => d.size - (intOf iv).toNat)
    case atStart => exact ⟨0, Nat.zero_le _, by first | rfl | go_num, rfl, fun j c h => absurd h (Nat.not_lt_zero _)⟩
    case round =>
      obtain ⟨k, hk, rfl, rfl, hall⟩ := hrel
      clear i1
      by_cases hlt : k < d.size
      · have hc := ba_at d k hlt
        have i2 := fun (w : World) => run_index_at (P := Tryz.prog) w 9 d .i64 k rfl hlt
        have HA := Lib.hid hall
        clear hall
        obtain ⟨c, hcc⟩ : ∃ c, c = (d[k]'hlt) := ⟨_, rfl⟩
        rw [← hcc] at hc i2
        have HC := Lib.hid hc
        clear hc hcc
        have HX := Lib.hid (show In.isDig c = (decide (48 ≤ c.toNat) && decide (c.toNat ≤ 57)) from rfl)
        generalize hx : c.toNat = x at *
        clear hx
        by_cases hg : 48 ≤ x ∧ x ≤ 57
        · have HG := Lib.hid (show In.isDig c = true from by rw [HX.out, decide_eq_true hg.1, decide_eq_true hg.2]; rfl)
          obtain ⟨g1, g2⟩ := hg
          have e1 : decide ((x : Int) < 48) = false := by rw [decide_eq_false_iff_not]; omega
          have e2 : decide (57 < (x : Int)) = false := by rw [decide_eq_false_iff_not]; omega
          go_wp2_with fail
          go_roundw
          case rel =>
            refine ⟨k + 1, hlt, by go_num, by first | rfl | trivial, fun j c' hj hc' => ?_⟩
            rcases Nat.lt_or_ge j k with h | h
            · exact HA.out j c' h hc'
            · obtain rfl : j = k := by omega
              rw [HC.out] at hc'
              rw [← Option.some.inj hc']
              exact HG.out
          case measure => simp [intOf]; omega
        · have e : V = false := HVD.out c (List.mem_of_getElem? HC.out) (by
            rw [HX.out]
            by_cases h : 48 ≤ x
            · rw [decide_eq_false (p := x ≤ 57) (by omega), Bool.and_false]
            · rw [decide_eq_false h, Bool.false_and])
          have HE := Lib.hid e
          clear e
          rcases Nat.lt_or_ge x 48 with h | h
          · have e1 : decide ((x : Int) < 48) = true := by rw [decide_eq_true_eq]; omega
            clear hg
            go_wp2_with fail
            go_ret
            exact ⟨retv (vbool HE.out.symm), rfl⟩
          · have h2 : 57 < x := by omega
            have e1 : decide ((x : Int) < 48) = false := by rw [decide_eq_false_iff_not]; omega
            have e2 : decide (57 < (x : Int)) = true := by rw [decide_eq_true_eq]; omega
            clear hg
            go_wp2_with fail
            go_ret
            exact ⟨retv (vbool HE.out.symm), rfl⟩
      · obtain rfl : k = d.size := by omega
        rcases Nat.eq_zero_or_pos d.size with h0 | hp2
        · have HE := Lib.hid (HVN.out h0)
          rw [h0]
          have e0 : ((d.size : Nat) : Int) = 0 := by omega
          clear hall hlt
          go_wp2_with fail
          go_ret
          exact ⟨retv (vbool HE.out.symm), rfl⟩
        · have e0 : decide (0 < (d.size : Int)) = true := by rw [decide_eq_true_eq]; omega
          by_cases hlong : 200 < d.size
          · have HE := Lib.hid (HVL.out hlong)
            have e1 : decide ((d.size : Int) ≤ 200) = false := by rw [decide_eq_false_iff_not]; omega
            clear hall hlt
            go_wp2_with fail
            go_ret
            exact ⟨retv (vbool HE.out.symm), rfl⟩
          · have e1 : decide ((d.size : Int) ≤ 200) = true := by rw [decide_eq_true_eq]; omega
            have HE := Lib.hid (HVA.out hp2 (by omega) (fun c hc => by
              obtain ⟨j, hj⟩ := List.getElem?_of_mem hc
              exact hall j c (by simpa using (List.getElem?_eq_some_iff.1 hj).1) hj))
            have i2 := fun (w : World) => run_index_at (P := Tryz.prog) w 9 d .i64 0 rfl hp2
            rw [show ((0 : Nat) : Int) = 0 from rfl] at i2
            have hcc := ba_at d 0 hp2
            rw [List.head?_eq_getElem?, hcc] at HE
            generalize (d[0]'hp2) = c at *
            have hq : (c.toNat = 48 ∧ decide (some c ≠ some (48 : UInt8)) = false) ∨ (c.toNat ≠ 48 ∧ decide (some c ≠ some (48 : UInt8)) = true) := by
              by_cases h : c = 48
              · exact .inl ⟨by rw [h]; rfl, by rw [h]; decide⟩
              · exact .inr ⟨fun e => h (UInt8.toNat_inj.1 e), decide_eq_true (fun e => h (Option.some.inj e))⟩
            clear hall hlt hcc
            rcases hq with ⟨h1, h2⟩ | ⟨h1, h2⟩
            · rw [h2] at HE
              rw [h1] at i2
              clear h1 h2
              go_wp2_with fail
              go_ret
              exact ⟨retv (vbool HE.out.symm), rfl⟩
            · rw [h2] at HE
              have d1 : ((c.toNat : Int) == 48) = false := by simp; omega
              have d2 : decide ((c.toNat : Int) = 48) = false := by simp; omega
              have d3 : ((c.toNat : Int) != 48) = true := by simp; omega
              generalize c.toNat = x at *
              clear h1 h2
              go_wp2_with fail
              go_ret
              exact ⟨retv (vbool HE.out.symm), rfl⟩
  · have h45' : s.data.toList.head? ≠ some 45 := by rw [hh]; intro h; exact h45 (Option.some.inj h)
    have hdl := dl_same h45'
    have hds : s.size = (In.dl s.data.toList).length := by rw [hdl]; simp
    have HVN := Lib.hid (fun (h : s.size = 0) => show V = false from by rw [HV.out]; exact In.v_nil (List.eq_nil_of_length_eq_zero (by rw [← hds]; exact h)))
    have HVL := Lib.hid (fun (h : 200 < s.size) => show V = false from by rw [HV.out]; exact In.v_long (by rw [← hds]; exact h))
    have HVD := Lib.hid (fun (c : UInt8) (hc : c ∈ s.data.toList) (h : In.isDig c = false) => show V = false from by rw [HV.out]; exact In.v_dig (by rw [hdl]; exact hc) h)
    have HVA := Lib.hid (fun (h0 : 0 < s.size) (h1 : s.size ≤ 200) (h2 : ∀ c ∈ s.data.toList, In.isDig c = true) => show V = (decide (s.data.toList.head? ≠ some 48) || decide (s.data.toList = [48])) from by
      rw [HV.out, In.v_all (fun h => by rw [hds, h] at h0; cases h0) (by rw [← hds]; exact h1) (by rw [hdl]; exact h2), hdl])
    have h46 : ((s[0]'hp).toNat : Int) ≠ 45 := fun h => h45 (UInt8.toNat_inj.1 (show _ = 45 by omega))
    generalize (s[0]'hp).toNat = c0 at *
    have dd : decide ((c0 : Int) = 45) = false := decide_eq_false h46
    have d3 : ((c0 : Int) == 45) = false := by simpa using h46
    generalize decide (s.data.toList = [48]) = B at *
    clear HV hdl hds h45 h45' hh h46
    go_enter Tryz.func59, Tryz.ntmps59
    go_wp2_with fail
    go_loopw [3] (fun iv wr => ∃ k : Nat, k ≤ s.size ∧ iv = .int .i64 k ∧ wr = w ∧ ∀ j c, j < k → s.data.toList[j]? = some c → In.isDig c = true) (fun iv _ => s.size - (intOf iv).toNat)
    case atStart => exact ⟨0, Nat.zero_le _, by first | rfl | go_num, rfl, fun j c h => absurd h (Nat.not_lt_zero _)⟩
    case round =>
      obtain ⟨k, hk, rfl, rfl, hall⟩ := hrel
      clear i1
      by_cases hlt : k < s.size
      · have hc := ba_at s k hlt
        have i2 := fun (w : World) => run_index_at (P := Tryz.prog) w 9 s .i64 k rfl hlt
        have HA := Lib.hid hall
        clear hall
        obtain ⟨c, hcc⟩ : ∃ c, c = (s[k]'hlt) := ⟨_, rfl⟩
        rw [← hcc] at hc i2
        have HC := Lib.hid hc
        clear hc hcc
        have HX := Lib.hid (show In.isDig c = (decide (48 ≤ c.toNat) && decide (c.toNat ≤ 57)) from rfl)
        generalize hx : c.toNat = x at *
        clear hx
        by_cases hg : 48 ≤ x ∧ x ≤ 57
        · have HG := Lib.hid (show In.isDig c = true from by rw [HX.out, decide_eq_true hg.1, decide_eq_true hg.2]; rfl)
          obtain ⟨g1, g2⟩ := hg
          have e1 : decide ((x : Int) < 48) = false := by rw [decide_eq_false_iff_not]; omega
          have e2 : decide (57 < (x : Int)) = false := by rw [decide_eq_false_iff_not]; omega
          go_wp2_with fail
          go_roundw
          case rel =>
            refine ⟨k + 1, hlt, by go_num, by first | rfl | trivial, fun j c' hj hc' => ?_⟩
            rcases Nat.lt_or_ge j k with h | h
            · exact HA.out j c' h hc'
            · obtain rfl : j = k := by omega
              rw [HC.out] at hc'
              rw [← Option.some.inj hc']
              exact HG.out
          case measure => simp [intOf]; omega
        · have e : V = false := HVD.out c (List.mem_of_getElem? HC.out) (by
            rw [HX.out]
            by_cases h : 48 ≤ x
            · rw [decide_eq_false (p := x ≤ 57) (by omega), Bool.and_false]
            · rw [decide_eq_false h, Bool.false_and])
          have HE := Lib.hid e
          clear e
          rcases Nat.lt_or_ge x 48 with h | h
          · have e1 : decide ((x : Int) < 48) = true := by rw [decide_eq_true_eq]; omega
            clear hg
            go_wp2_with fail
            go_ret
            exact ⟨retv (vbool HE.out.symm), rfl⟩
          · have h2 : 57 < x := by omega
            have e1 : decide ((x : Int) < 48) = false := by rw [decide_eq_false_iff_not]; omega
            have e2 : decide (57 < (x : Int)) = true := by rw [decide_eq_true_eq]; omega
            clear hg
            go_wp2_with fail
            go_ret
            exact ⟨retv (vbool HE.out.symm), rfl⟩
      · obtain rfl : k = s.size := by omega
        rcases Nat.eq_zero_or_pos s.size with h0 | hp2
        · have HE := Lib.hid (HVN.out h0)
          rw [h0]
          have e0 : ((s.size : Nat) : Int) = 0 := by omega
          clear hall hlt
          go_wp2_with fail
          go_ret
          exact ⟨retv (vbool HE.out.symm), rfl⟩
        · have e0 : decide (0 < (s.size : Int)) = true := by rw [decide_eq_true_eq]; omega
          by_cases hlong : 200 < s.size
          · have HE := Lib.hid (HVL.out hlong)
            have e1 : decide ((s.size : Int) ≤ 200) = false := by rw [decide_eq_false_iff_not]; omega
            clear hall hlt
            go_wp2_with fail
            go_ret
            exact ⟨retv (vbool HE.out.symm), rfl⟩
          · have e1 : decide ((s.size : Int) ≤ 200) = true := by rw [decide_eq_true_eq]; omega
            have HE := Lib.hid (HVA.out hp2 (by omega) (fun c hc => by
              obtain ⟨j, hj⟩ := List.getElem?_of_mem hc
              exact hall j c (by simpa using (List.getElem?_eq_some_iff.1 hj).1) hj))
            have i2 := fun (w : World) => run_index_at (P := Tryz.prog) w 9 s .i64 0 rfl hp2
            rw [show ((0 : Nat) : Int) = 0 from rfl] at i2
            have hcc := ba_at s 0 hp2
            rw [List.head?_eq_getElem?, hcc] at HE
            generalize (s[0]'hp2) = c at *
            have hq : (c.toNat = 48 ∧ decide (some c ≠ some (48 : UInt8)) = false) ∨ (c.toNat ≠ 48 ∧ decide (some c ≠ some (48 : UInt8)) = true) := by
              by_cases h : c = 48
              · exact .inl ⟨by rw [h]; rfl, by rw [h]; decide⟩
              · exact .inr ⟨fun e => h (UInt8.toNat_inj.1 e), decide_eq_true (fun e => h (Option.some.inj e))⟩
            clear hall hlt hcc
            rcases hq with ⟨h1, h2⟩ | ⟨h1, h2⟩
            · rw [h2] at HE
              rw [h1] at i2
              clear h1 h2
              cases B
              all_goals
                go_wp2_with fail
                go_ret
                exact ⟨retv (vbool HE.out.symm), rfl⟩
            · rw [h2] at HE
              have d1 : ((c.toNat : Int) == 48) = false := by simp; omega
              have d2 : decide ((c.toNat : Int) = 48) = false := by simp; omega
              have d3 : ((c.toNat : Int) != 48) = true := by simp; omega
              generalize c.toNat = x at *
              clear h1 h2
              cases B
              all_goals
                go_wp2_with fail
                go_ret
                exact ⟨retv (vbool HE.out.symm), rfl⟩
end Go.Proofs.YtlehjmanlccncaaGreatDoor
