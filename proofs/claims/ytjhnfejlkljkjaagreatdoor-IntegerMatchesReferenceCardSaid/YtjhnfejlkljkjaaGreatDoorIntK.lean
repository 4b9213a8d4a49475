/- Natural numbers in groups: quotients. -/
import Derived.Test.YtjhnfejlkljkjaaGreatDoorIntJ
import Derived.Deep.DeepCutAuto
import Derived.Deep.RegionLaw
namespace Go.Proofs.YtjhnfejlkljkjaaGreatDoor
open Go.RowKit

abbrev funcV (v : Value) : Value := .func (.func 59) #[v] #[]
theorem Row.below {w w' : World} {B b : Nat} {t : TypeId} {C : List Value} (h : Row w b t C) (hb : Below B w w') (hB : b < B) : Row w' b t C := (hb.block b hB).trans h
theorem LSl.far {w : World} {p : Addr} {o : Option Addr} {l : List Nat} (h : LSl w o l) (hne : ∀ b off, o = some ⟨b, off, none⟩ → l ≠ [] → b ≠ p.block) (v : Value) : LSl (w.setCell p v) o l := by
  by_cases hl : l = []
  · exact .inl hl
  · rcases h with h | ⟨b, off, rfl, hp, hc⟩
    · exact .inl h
    · refine .inr ⟨b, off, rfl, by simpa using hp, fun j x hx => ?_⟩
      rw [World.cell?_setCell_far _ _ _ _ (Ne.symm (hne b off rfl hl))]
      exact hc j x hx
theorem NSl.far {w : World} {p : Addr} {o : Option Addr} {L c k : Nat} (h : NSl w (.slice o L c) k) (hne : ∀ b off, o = some ⟨b, off, none⟩ → In.gs k ≠ [] → b ≠ p.block) (v : Value) : NSl (w.setCell p v) (.slice o L c) k := by
  obtain ⟨o', c', e, h1, h2, h3, h4⟩ := h.ex
  cases e
  exact ⟨o, c, rfl, h1, h2, h3, h4.far hne v⟩
/-- a store into a variable that holds a slice is none into numbers -/
theorem LSl.set {w : World} {b : Nat} {t : TypeId} {s : Option Addr} {n c : Nat} {o : Option Addr} {l : List Nat} (hR : Row w b t [.slice s n c]) (h : LSl w o l) (v : Value) : LSl (w.setCell ⟨b, 0, none⟩ v) o l := by
  rcases h with h | ⟨p, off, rfl, hp, hc⟩
  · exact .inl h
  · refine .inr ⟨p, off, rfl, by simpa using hp, fun j x hx => ?_⟩
    have h1 := hc j x hx
    have hpb : b ≠ p := by
      rintro rfl
      rw [hR.cell] at h1
      cases hj : off + j with
      | zero => rw [hj] at h1; cases h1
      | succ i => rw [hj] at h1; simp at h1
    rw [World.cell?_setCell_far _ _ _ _ hpb]
    exact h1
theorem NSl.set {w : World} {b : Nat} {t : TypeId} {s : Option Addr} {n c : Nat} {v : Value} {k : Nat} (hR : Row w b t [.slice s n c]) (h : NSl w v k) (u : Value) : NSl (w.setCell ⟨b, 0, none⟩ u) v k := by
  obtain ⟨o, c', rfl, h1, h2, h3, h4⟩ := h.ex
  exact ⟨o, c', rfl, h1, h2, h3, h4.set hR u⟩
theorem set_block (w : World) (b k : Nat) (v : Value) (h : k ≠ b) : (w.setCell ⟨b, 0, none⟩ v).heap[k]? = w.heap[k]? := by
  show (w.heap.modify b _)[k]? = _
  rw [Array.getElem?_modify, if_neg (by omega)]
set_option maxRecDepth 100000 in
set_option maxHeartbeats 4000000 in
theorem over_any (u v : Value) (a b : Nat) (w : World) (hu : NSl w u a) (hv : NSl w v b) (hb0 : 0 < b) (la : (In.gs a).length ≤ 900) (lb : (In.gs b).length ≤ 900) :
    Calls Tryz.prog 44 #[u, v] w fun e w' => ∃ q r, e = .returned (.tuple #[q, r]) ∧ NSl w' q (a / b) ∧ NSl w' r (a % b) ∧ Below w.heap.size w w' := by
  obtain ⟨o, c, rfl, a1, a2, a3, a4⟩ := hu.ex
  have HV := Lib.hid hv
  obtain ⟨ob, cb, rfl, _⟩ := hv.ex
  obtain ⟨i0, hi, hz0, hz1, hz2⟩ := info_parts infoInt
  obtain ⟨L, hL⟩ : ∃ L, (In.gs a).length = L := ⟨_, rfl⟩
  generalize hLB : (In.gs b).length = LB at *
  rw [hL] at la a1 ⊢
  have hmk := fun (W : World) => run_make_row (P := Tryz.prog) W 45 3 i0 _ 8 Tryz.underlying45 hi hz0 hz1 hz2 rfl L (by omega) (by omega)
  have HA := Lib.hid a4
  have HL := Lib.hid hL
  have HLB := Lib.hid hLB
  clear a4 hL hLB hu hv
  go_enter Tryz.func44, Tryz.ntmps44
  go_upto_region 4 with (fail)
  refine wp_named fun w1 hw => ?_
  obtain ⟨bm, hbm⟩ : ∃ x, x = w.heap.size := ⟨_, rfl⟩
  obtain ⟨bq, hbq⟩ : ∃ x, x = w.heap.size + 1 := ⟨_, rfl⟩
  obtain ⟨br, hbr⟩ : ∃ x, x = w.heap.size + 1 + 1 := ⟨_, rfl⟩
  have R1 : Row w1 bm 77 [funcV (.slice ob LB cb)] ∧ Row w1 bq 3 ((List.replicate L 0).map natV) ∧ Row w1 br 45 [.slice none 0 0] ∧ Below w.heap.size w w1 := by
    rw [hw, hbm, hbq, hbr]
    refine ⟨((Row.new w _ [funcV (.slice ob LB cb)]).alloc _).alloc _, ?_, ?_, (((Below.refl _ _).alloc (Nat.le_refl _) _).alloc (by simp) _).alloc (by simp; omega) _⟩
    · have := (row_zeros (w.alloc (.cells #[funcV (.slice ob LB cb)] 77)) L 3).alloc (.cells #[.slice none 0 0] 45)
      rw [World.size_alloc, ← zeros_padL] at this
      rw [List.map_replicate]
      exact this
    · have := Row.new ((w.alloc (.cells #[funcV (.slice ob LB cb)] 77)).alloc (.cells (Array.replicate L (.int .i64 0)) 3)) 45 [.slice none 0 0]
      rw [World.size_alloc, World.size_alloc] at this
      exact this
  rw [← hbm] at R1
  rw [← hbr, ← hbq, ← hbm]
  have HR1 := Lib.hid R1
  have HE := Lib.hid (And.intro hbm (And.intro hbq hbr))
  clear hw R1 hbm hbq hbr hmk
  go_wp2_with fail
  go_loopw [9] (fun iv wr => ∃ (k : Nat) (ru : Value) (qs : List Nat), iv = .int .i64 ((k : Int) - 1) ∧ k ≤ L ∧ qs.length = L - k ∧ (∀ x ∈ qs, x < 10000) ∧ In.nv 10000 qs = a / 10000 ^ k / b ∧ NSl wr ru (a / 10000 ^ k % b) ∧
    Row wr bm 77 [funcV (.slice ob LB cb)] ∧ Row wr bq 3 ((List.replicate k 0 ++ qs).map natV) ∧ Row wr br 45 [ru] ∧ Below bm w wr ∧ (∀ blk, ru.ownBlock = some blk → blk ≠ bq)) (fun iv _ => (intOf iv + 1).toNat)
  case atStart =>
    have e : a / 10000 ^ L = 0 := by rw [← HL.out, In.gs_top]
    exact ⟨L, .slice none 0 0, [], rfl, Nat.le_refl _, by simp, (fun x hx => by cases hx), by rw [e]; simp [In.nv], by rw [e, Nat.zero_mod]; exact nsl_zero _, HR1.out.1, by rw [List.append_nil]; exact HR1.out.2.1, HR1.out.2.2.1, HR1.out.2.2.2, (fun blk h => by cases h)⟩
  case round =>
    obtain ⟨k, ru, qs, rfl, hk, hql, hqx, hqv, hru, hRm, hRq, hRr, hB, hfr⟩ := hrel
    clear hfr
    clear HR1
    cases k with
    | zero =>
      rw [Nat.pow_zero, Nat.div_one] at hqv hru
      rw [List.replicate_zero, List.nil_append] at hRq
      rw [show ((0 : Nat) : Int) - 1 = -1 from rfl]
      have hql2 : qs.length = L := by omega
      obtain ⟨ro, rc, rfl, _⟩ := hru.ex
      have CT := Lib.hid (trim_any (some ⟨bq, 0, none⟩) L L qs wr.drew hql2 hqx (Nat.le_refl _) (by omega) (fun h => by cases h) ((row_sl hRq).next (Below.refl _ _).drew))
      rw [hqv] at CT
      have HRU := Lib.hid hru
      have HBW := Lib.hid (show Below w.heap.size w wr from by rw [← HE.out.1]; exact hB)
      have c1 := (Row.cell hRr 0).trans (show _ = some (.slice ro (In.gs (a % b)).length rc) from rfl)
      have c2 : wr.drew.cell? ⟨br, 0, none⟩ = some (.slice ro (In.gs (a % b)).length rc) := c1
      have lbr := hRr.lt
      generalize (In.gs (a % b)).length = RL at *
      clear hql hqx hqv hru hRm hRq hRr hB hql2 HA hk
      go_upto_region 12 with (fail)
      first | (go_region_held3 (fun w' => w'.cell? ⟨br, 0, none⟩ = some (.slice ro RL rc)) (first | assumption | go_keep) (first
        | (go_at_call 64; with_reducible refine Calls.mono CT.out ?_; rintro e wa ⟨q, rfl, hn1, hb1⟩; have HF := Lib.hid (And.intro hn1 (And.intro (HRU.out.next (Below.andThen (Below.refl _ wr).drew hb1)) (Below.andThen HBW.out (Below.andThen (Below.refl _ wr).drew hb1)))); have c3 := ((Below.andThen (Below.refl _ wr).drew hb1).cell (p := ⟨br, 0, none⟩) lbr).trans c1; clear hn1 hb1))) | fail
      go_wp2_with fail
      go_ret2
      exact ⟨_, _, rfl, HF.out⟩
    | succ m =>
      rw [show ((m + 1 : Nat) : Int) - 1 = (m : Int) by omega]
      have HK := Lib.hid (And.intro hql (And.intro hqx (And.intro hqv (And.intro hRm (And.intro hRq hB)))))
      have hx := In.gs_at (n := a) (i := m) (by rw [HL.out]; omega)
      have lx : a / 10000 ^ m % 10000 < 10000 := Nat.mod_lt _ (by decide)
      have HN := Lib.hid (In.quo_next (a := a) (i := m) hb0)
      have HD := Lib.hid (In.quo_digit (a := a) (i := m) hb0)
      have hRlt := Nat.mod_lt (a / 10000 ^ (m + 1)) hb0
      generalize hR0 : a / 10000 ^ (m + 1) % b = R0 at *
      generalize a / 10000 ^ m % 10000 = x at *
      have lR0 : (In.gs R0).length ≤ 900 := Nat.le_trans (gs_len_le (Nat.le_of_lt hRlt)) (by rw [HLB.out]; exact lb)
      have lgt := hRr.lt
      rcases (HA.out.next (hB.mono (by have := HE.out; omega))) with h | ⟨p, off, rfl, hp, hcell⟩
      · rw [h] at hx; simp at hx
      have lam : Below bm w wr := hB
      have c1 := hcell m x hx
      have c2 := (Row.cell hRr 0).trans (show _ = some ru from rfl)
      have HRU := Lib.hid hru
      have HRR := Lib.hid hRr
      obtain ⟨ro, rc, rfl, _⟩ := hru.ex
      generalize hRL : (In.gs R0).length = RL at *
      have HRL := Lib.hid hRL
      clear hRL
      clear hx hcell hql hqx hqv hRm hRq hB lam hru hRr
      have hmL : m < L := by omega
      have hmI : (m : Int) < (L : Int) := by omega
      go_upto_region 7 with (fail)
      go_cut [29] (fun v' wx => ∃ ru', NSl wx ru' (R0 * 10000 + x) ∧ Row wx br 45 [ru'] ∧ (∀ b', b' ≠ br → b' < wr.heap.size → wx.heap[b']? = wr.heap[b']?) ∧ Below br wr wx ∧ (∀ blk, ru'.ownBlock = some blk → blk ≠ bq))
      case first =>
        have c3 : wr.drew.cell? ⟨br, 0, none⟩ = some (.slice ro RL rc) := c2
        have c4 : wr.drew.cell? ⟨p, off + m, none⟩ = some (natV x) := c1
        have hqw : bq < wr.heap.size := by have := HE.out; omega
        have CSH := Lib.hid (shifted_new (.slice ro RL rc) R0 x wr.drew (HRU.out.next (Below.refl _ _).drew) (by rw [HRL.out]; omega) lx)
        go_region_law (first
          | (go_simp; go_at_call 60; with_reducible refine Calls.mono CSH.out ?_; rintro e wa ⟨r1, rfl, hn1, hb1, hf1⟩; have HFR := Lib.hid (show ∀ blk, r1.ownBlock = some blk → blk ≠ bq from fun blk hk hq => by have h1 := hf1 blk hk; have h0 := (Below.refl wr.heap.size wr).drew.size; omega); clear hf1; have hra := HRR.out.drew.next hb1; have k1 := (Row.cell hra 0).trans (show _ = some (.slice ro RL rc) from rfl); have k2 := Row.frozen hra 0; have HA1 := Lib.hid (And.intro hn1 (And.intro hra (show Below wr.heap.size wr wa from Below.andThen (Below.refl _ wr).drew hb1))); obtain ⟨o1, q1, rfl, _⟩ := hn1.ex; clear hn1 hb1 hra))
        all_goals (
          go_simp
          go_wp2_with fail
          go_meet
          exact ⟨_, NSl.set HA1.out.2.1 HA1.out.1 _, HA1.out.2.1.set 0 _, (fun b' hb' hlt => (set_block wa br b' _ hb').trans (HA1.out.2.2.block b' hlt)), ((HA1.out.2.2.mono (Nat.le_of_lt lgt)).setCell (p := ⟨br, 0, none⟩) (Nat.le_refl _) _), HFR.out⟩)
      obtain ⟨ru', hn', hrr', hot, hbr', hfru⟩ := hcut
      have HFRU := Lib.hid hfru
      clear hfru
      rename World => wA
      obtain ⟨hql, hqx, hqv, hRm, hRq, hB⟩ := HK.out
      have hne : bm ≠ br ∧ bq ≠ br := by have := HE.out; omega
      have hRm2 : Row wA bm 77 [funcV (.slice ob LB cb)] := (hot bm hne.1 hRm.lt).trans hRm
      have hRq2 : Row wA bq 3 ((List.replicate (m + 1) 0 ++ qs).map natV) := (hot bq hne.2 hRq.lt).trans hRq
      have hB2 : Below bm w wA := hB.trans (hbr'.mono (by have := HE.out; omega))
      have hvA : NSl wA (.slice ob LB cb) b := HV.out.next (by rw [← HE.out.1]; exact hB2)
      obtain ⟨so, sc, rfl, _⟩ := hn'.ex
      have lR : (In.gs (R0 * 10000 + x)).length ≤ 990 := by
        have h1 : R0 * 10000 + x ≤ b * 10000 := by omega
        have h2 := gs_len_mul b 10000
        have e : (In.gs 10000).length = 2 := by decide
        have h3 := gs_len_le h1
        have := HLB.out
        omega
      have CC := Lib.hid (compare_any _ _ (R0 * 10000 + x) b wA hn' hvA (by omega) (by rw [HLB.out]; omega))
      have HNA := Lib.hid (And.intro hn' (And.intro hvA (And.intro hrr' (And.intro hRm2 (And.intro hRq2 hB2)))))
      have HLR := Lib.hid lR
      have HQ0 := Lib.hid (And.intro hql (And.intro hqx hqv))
      have c5 := (Row.cell hrr' 0).trans (show _ = some (.slice so (In.gs (R0 * 10000 + x)).length sc) from rfl)
      have HCN := Lib.hid (cmpN_neg (R0 * 10000 + x) b)
      generalize hR9 : R0 * 10000 + x = R at *
      generalize hRL9 : (In.gs R).length = RL2 at *
      have HRL2 := Lib.hid hRL9
      clear hn' hrr' hot hbr' hql hqx hqv hRm hRq hB hRm2 hRq2 hB2 hvA lR hRL9 c1 c2 HK
      by_cases hRb : R < b
      · have HD1 := Lib.hid (show decide (In.cmpN R b < 0) = true from by rw [HCN.out]; exact decide_eq_true hRb)
        have d1 : decide (In.cmpN R b < 0) = true := HD1.out
        go_wp2_with fail
        refine Calls.mono CC.out ?_
        rintro e wB ⟨rfl, hb⟩
        have HB9 := Lib.hid hb
        clear hb
        go_wp2_with fail
        obtain ⟨hn', hvA, hrr', hRm2, hRq2, hB2⟩ := HNA.out
        obtain ⟨hql, hqx, hqv⟩ := HQ0.out
        have hb := HB9.out
        obtain ⟨e1, e2⟩ := HN.out
        have e3 : R / b = 0 := Nat.div_eq_of_lt hRb
        have e4 : R % b = R := Nat.mod_eq_of_lt hRb
        refine ⟨⟨m, _, 0 :: qs, by first | rfl | go_num, by omega, by simp [hql]; omega, (fun y hy => by
          rcases List.mem_cons.1 hy with rfl | hy
          · decide
          · exact hqx y hy), ?_, ?_, hRm2.next hb, ?_, hrr'.next hb, hB2.trans (hb.mono (by have := hB2.size; have := hrr'.lt; have := HE.out; omega)), HFRU.out⟩, by simp [intOf]⟩
        · rw [In.nv, hqv, e1, e3]; omega
        · rw [e2, e4]; exact hn'.next hb
        · have h1 : List.replicate (m + 1) 0 ++ qs = List.replicate m 0 ++ (0 :: qs) := by rw [List.replicate_succ', List.append_assoc]; rfl
          rw [← h1]
          exact hRq2.next hb
      · have d1 : decide (In.cmpN R b < 0) = false := by rw [HCN.out]; exact decide_eq_false hRb
        go_wp2_with fail
        refine Calls.mono CC.out ?_
        rintro e wB ⟨rfl, hb⟩
        have HB9 := Lib.hid hb
        have c6 := (hb.cell (p := ⟨br, 0, none⟩) HNA.out.2.2.1.lt).trans c5
        have hRb4 : R < b * 10000 := by
          have h1 := HD.out
          rw [Nat.div_lt_iff_lt_mul hb0] at h1
          rw [Nat.mul_comm]
          exact h1
        have CB := Lib.hid (bounds_any (.slice so RL2 sc) (.slice ob LB cb) R b wB (HNA.out.1.next hb) (HNA.out.2.1.next hb) hb0 hRb4 (by rw [HLB.out]; omega))
        clear hb c5
        go_wp2_with fail
        refine Calls.mono CB.out ?_
        rintro e wC ⟨lo, hi, rfl, hlo, hhi, hi9, hb⟩
        have HC9 := Lib.hid (Below.andThen HB9.out hb)
        have lmA := HNA.out.2.2.2.1.lt
        have lrA := HNA.out.2.2.1.lt
        have hcmA := (Row.cell HNA.out.2.2.2.1 0).trans (show _ = some (funcV (.slice ob LB cb)) from rfl)
        have hcrA := (Row.cell HNA.out.2.2.1 0).trans (show _ = some (.slice so RL2 sc) from rfl)
        have CG := Lib.hid (greatest_over #[.pointer (some ⟨bm, 0, none⟩), .pointer (some ⟨br, 0, none⟩)] lo hi (fun d => decide (b * d ≤ R)) (fun W => Below wA.heap.size wA W) wC (Nat.le_trans hlo hhi) hi9 HC9.out (fun W W' h h' => Below.andThen h h')
          (fun d W hd hJ hs => (over1_any (.slice ob LB cb) (.slice so RL2 sc) b R d bm br W (HNA.out.2.1.next hJ) (HNA.out.1.next hJ) ((hJ.cell (p := ⟨bm, 0, none⟩) lmA).trans hcmA) ((hJ.cell (p := ⟨br, 0, none⟩) lrA).trans hcrA) (Nat.lt_of_lt_of_le lmA hJ.size) (Nat.lt_of_lt_of_le lrA hJ.size) (by rw [HLB.out]; omega) (by rw [HRL2.out]; have := HLR.out; omega) (by omega)).mono fun e w' h => ⟨h.1, Below.andThen hJ h.2, h.2.size, fun b' _ hb' => h.2.block b' hb'⟩)
          (by simp only [decide_eq_true_eq]; rw [Nat.mul_comm]; exact (In.le_div_iff' hb0).2 hlo)
          (fun d e hde _ h => by simp only [decide_eq_true_eq] at h ⊢; exact Nat.le_trans (Nat.mul_le_mul_left _ hde) h))
        have HHI := Lib.hid hhi
        clear hb hcmA hcrA hlo hhi CB c6
        go_wp2_with fail
        refine Calls.mono CG.out ?_
        rintro e wD ⟨k, rfl, hlk, hkh, hPk, hPn, hJ⟩
        have hk : k = R / b := by
          simp only [decide_eq_true_eq, decide_eq_false_iff_not] at hPk hPn
          rw [Nat.mul_comm] at hPk
          have h1 : k ≤ R / b := (In.le_div_iff' hb0).1 hPk
          rcases Nat.lt_or_ge k hi with h | h
          · have h2 := hPn h
            rw [Nat.mul_comm] at h2
            have h3 : ¬ k + 1 ≤ R / b := fun h' => h2 ((In.le_div_iff' hb0).2 h')
            omega
          · have := HHI.out
            omega
        have HKD := Lib.hid hk
        have HJ9 := Lib.hid hJ
        have hRq4 := HNA.out.2.2.2.2.1.next hJ
        have hql := HQ0.out.1
        have k1 := hRq4.cell m
        rw [List.getElem?_map, List.getElem?_append_left (by simp), List.getElem?_replicate, if_pos (by omega), Option.map_some] at k1
        have k2 := hRq4.frozen m
        have HRQ4 := Lib.hid hRq4
        clear hJ hRq4 hPk hPn hk CG
        go_upto_region 11 with (fail)
        refine wp_named fun wE hwE => ?_
        have hB9 := HJ9.out
        have RE : Row wE bm 77 [funcV (.slice ob LB cb)] ∧ Row wE bq 3 ((List.replicate m 0 ++ (k :: qs)).map natV) ∧ Row wE br 45 [.slice so RL2 sc] ∧ NSl wE (.slice so RL2 sc) R ∧ NSl wE (.slice ob LB cb) b ∧ Below bm w wE := by
          rw [hwE]
          have hqm : bq ≠ bm ∧ bq ≠ br := by have := HE.out; omega
          refine ⟨(HNA.out.2.2.2.1.next hB9).other (Ne.symm hqm.1) _ _, ?_, (HNA.out.2.2.1.next hB9).other (Ne.symm hqm.2) _ _, (HNA.out.1.next hB9).far (fun b' off' e _ => HFRU.out b' (by rw [e]; rfl)) _, (HNA.out.2.1.next hB9).far (fun b' off' e hne => ?_) _, (HNA.out.2.2.2.2.2.trans (hB9.mono (by have := HNA.out.2.2.2.1.lt; omega))).setCell (p := ⟨bq, m, none⟩) (show bm ≤ bq by have := HE.out; omega) _⟩
          · have h1 := HRQ4.out.set m (natV k)
            rw [← List.map_set, List.replicate_succ', List.append_assoc, List.set_append_right _ _ (by simp)] at h1
            simpa using h1
          · obtain ⟨o2, c2, e2, _, _, _, h4⟩ := HV.out.ex
            cases e2
            rcases h4 with h4 | ⟨b2, off2, e3, hlt2, _⟩
            · exact absurd h4 hne
            · rw [e] at e3
              cases e3
              have := HE.out
              show b' ≠ bq
              omega
        have HRE := Lib.hid RE
        have m1 := (Row.cell RE.1 0).trans (show _ = some (funcV (.slice ob LB cb)) from rfl)
        have m2 := (Row.cell RE.2.2.1 0).trans (show _ = some (.slice so RL2 sc) from rfl)
        have m3 : wE.cell? ⟨bq, m, none⟩ = some (natV k) := by
          rw [RE.2.1.cell, List.getElem?_map, List.getElem?_append_right (by simp)]
          simp
        clear hwE hB9 RE k1 k2
        have HRW := Lib.hid (fun W (hb : Below wE.heap.size wE W) => HRE.out.2.2.1.next hb)
        have s0 : Below wE.heap.size wE wE.drew := (Below.refl _ _).drew
        have m4 : wE.drew.cell? ⟨bm, 0, none⟩ = some (funcV (.slice ob LB cb)) := m1
        have m5 : wE.drew.cell? ⟨br, 0, none⟩ = some (.slice so RL2 sc) := m2
        have m6 : wE.drew.cell? ⟨bq, m, none⟩ = some (natV k) := m3
        have lm3 := HRE.out.1.lt
        have lq3 := HRE.out.2.1.lt
        have lr3 := HRE.out.2.2.1.lt
        have hk9 : k < 10000 := by have := HKD.out; have := HD.out; omega
        have hbk : b * k ≤ R := by
          rw [HKD.out]
          exact Nat.mul_div_le R b
        have CS := Lib.hid (scaled_any (.slice ob LB cb) b k wE.drew (HRE.out.2.2.2.2.1.next s0) (by rw [HLB.out]; omega) hk9)
        go_region_law (first
          | (go_simp; go_at_call 59; with_reducible refine Calls.mono CS.out ?_; rintro e wF ⟨r1, rfl, hn1, hb1⟩; have HF1 := Lib.hid (And.intro hn1 (Below.andThen s0 hb1)); have n1 := (HF1.out.2.cell (p := ⟨br, 0, none⟩) lr3).trans m2; clear hn1 hb1)
          | (go_simp; go_at_call 56; with_reducible refine Calls.mono (minus_new (.slice so RL2 sc) r1 R (b * k) wF (HRE.out.2.2.2.1.next HF1.out.2) HF1.out.1 (by rw [HRL2.out]; have := HLR.out; omega) hbk) ?_; rintro e wG ⟨r2, rfl, hn2, hb2, hf2⟩; have HG := Lib.hid (And.intro hn2 (And.intro hf2 (Below.andThen HF1.out.2 hb2))); have n2 := (HG.out.2.2.cell (p := ⟨br, 0, none⟩) lr3).trans m2; have n3 := Row.frozen (HRW.out wG HG.out.2.2) 0; obtain ⟨o1, q1, rfl, _⟩ := hn2.ex; clear hn2 hb2 hf2))
        all_goals (
          go_simp
          go_wp2_with fail
          refine ⟨⟨m, _, k :: qs, by first | rfl | go_num, by omega, by simp [HQ0.out.1]; omega, (fun y hy => by
            rcases List.mem_cons.1 hy with rfl | hy
            · exact hk9
            · exact HQ0.out.2.1 y hy), ?_, ?_, (HRE.out.1.next HG.out.2.2).other (show bm ≠ br by have := HE.out; omega) _ _, (HRE.out.2.1.next HG.out.2.2).other (show bq ≠ br by have := HE.out; omega) _ _, (HRW.out _ HG.out.2.2).set 0 _, ?_, ?_⟩, by simp [intOf]⟩
          · rw [In.nv, HQ0.out.2.2, HN.out.1, HKD.out]; omega
          · have h1 := NSl.set (HRW.out _ HG.out.2.2) HG.out.1 (.slice o1 (In.gs (R - b * k)).length q1)
            have h2 : a / 10000 ^ m % b = R - b * k := by
              rw [HN.out.2, HKD.out]
              have := Nat.mod_add_div R b
              omega
            rw [h2]
            exact h1
          · exact (HRE.out.2.2.2.2.2.trans (HG.out.2.2.mono (Nat.le_of_lt lm3))).setCell (p := ⟨br, 0, none⟩) (show bm ≤ br by have := HE.out; omega) _
          · intro blk hk0 hq0
            have h1 := HG.out.2.1 blk hk0
            have h2 := HF1.out.2.size
            omega)
end Go.Proofs.YtjhnfejlkljkjaaGreatDoor
