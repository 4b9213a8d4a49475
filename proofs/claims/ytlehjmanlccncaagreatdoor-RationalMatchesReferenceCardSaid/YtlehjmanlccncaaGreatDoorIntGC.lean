/- Natural numbers in groups: quotients. -/
/- Natural numbers in groups: roots. -/
/- Natural numbers in groups: the root. -/
/- What strconv.Atoi makes of a valid integer: mathematics. -/
/- Natural numbers in groups: reading. -/
import Derived.Test.YtlehjmanlccncaaGreatDoorIntGB
import Derived.Deep.DeepCutAuto
import Derived.Deep.RegionLaw
import Derived.Deep.CutBlock
import Derived.Test.YtlehjmanlccncaaGreatDoorIntGA
import Derived.Lib.AtoiAllCases
import Derived.Lib.OthersKept
set_option linter.unusedVariables false
set_option linter.unusedSimpArgs false
namespace Go.Proofs.YtlehjmanlccncaaGreatDoor
open Go.RowKit

abbrev funcV (v : Value) : Value := .func (.func 114) #[v] #[]
theorem Row.below {w w' : World} {B b : Nat} {t : TypeId} {C : List Value} (h : Row w b t C) (hb : Below B w w') (hB : b < B) : Row w' b t C := (hb.block b hB).trans h
theorem LSl.far {w : World} {p : Addr} {o : Option Addr} {l : List Nat} (h : LSl w o l) (hne : ∀ b off, o = some ⟨b, off, none⟩ → l ≠ [] → b ≠ p.block) (v : Value) : LSl (w.setCell p v) o l := by
  by_cases hl : l = []
  · exact .inl hl
  · rcases h with h | ⟨b, off, rfl, hp, hc⟩
    · exact .inl h
    · refine .inr ⟨b, off, rfl, by simpa using hp, fun j x hx => ?_⟩
      rw [World.cell?_setCell_far _ _ _ _ (Ne.symm (hne b off rfl hl))]
      exact hc j x hx
theorem NSl.far {w : World} {p : Addr} {o : Option Addr} {L c k : Nat} (h : NSl w (.slice o L c) k) (hne : ∀ b off, o = some ⟨b, off, none⟩ → In.gs k ≠ [] → b ≠ p.block) (v : Value) : NSl (w.setCell p v) (.slice o L c) k := by
  obtain ⟨o', c', e, h1, h2, h3, h4⟩ := h.ex
  cases e
  exact ⟨o, c, rfl, h1, h2, h3, h4.far hne v⟩
/-- a store into a variable that holds a slice is none into numbers -/
theorem LSl.set {w : World} {b : Nat} {t : TypeId} {s : Option Addr} {n c : Nat} {o : Option Addr} {l : List Nat} (hR : Row w b t [.slice s n c]) (h : LSl w o l) (v : Value) : LSl (w.setCell ⟨b, 0, none⟩ v) o l := by
  rcases h with h | ⟨p, off, rfl, hp, hc⟩
  · exact .inl h
  · refine .inr ⟨p, off, rfl, by simpa using hp, fun j x hx => ?_⟩
    have h1 := hc j x hx
    have hpb : b ≠ p := by
      rintro rfl
      rw [hR.cell] at h1
      cases hj : off + j with
      | zero => rw [hj] at h1; cases h1
      | succ i => rw [hj] at h1; simp at h1
    rw [World.cell?_setCell_far _ _ _ _ hpb]
    exact h1
theorem NSl.set {w : World} {b : Nat} {t : TypeId} {s : Option Addr} {n c : Nat} {v : Value} {k : Nat} (hR : Row w b t [.slice s n c]) (h : NSl w v k) (u : Value) : NSl (w.setCell ⟨b, 0, none⟩ u) v k := by
  obtain ⟨o, c', rfl, h1, h2, h3, h4⟩ := h.ex
  exact ⟨o, c', rfl, h1, h2, h3, h4.set hR u⟩
theorem set_block (w : World) (b k : Nat) (v : Value) (h : k ≠ b) : (w.setCell ⟨b, 0, none⟩ v).heap[k]? = w.heap[k]? := by
  show (w.heap.modify b _)[k]? = _
  rw [Array.getElem?_modify, if_neg (by omega)]
set_option maxRecDepth 100000 in
set_option maxHeartbeats 4000000 in
theorem over_any (u v : Value) (a b : Nat) (w : World) (hu : NSl w u a) (hv : NSl w v b) (hb0 : 0 < b) (la : (In.gs a).length ≤ 900) (lb : (In.gs b).length ≤ 900) :
    Calls Tryz.prog 92 #[u, v] w fun e w' => ∃ q r, e = .returned (.tuple #[q, r]) ∧ NSl w' q (a / b) ∧ NSl w' r (a % b) ∧ Below w.heap.size w w' := by
  obtain ⟨o, c, rfl, a1, a2, a3, a4⟩ := hu.ex
  have HV := Lib.hid hv
  obtain ⟨ob, cb, rfl, _⟩ := hv.ex
  obtain ⟨i0, hi, hz0, hz1, hz2⟩ := info_parts infoInt
  obtain ⟨L, hL⟩ : ∃ L, (In.gs a).length = L := ⟨_, rfl⟩
  generalize hLB : (In.gs b).length = LB at *
  rw [hL] at la a1 ⊢
  have hmk := fun (W : World) => run_make_row (P := Tryz.prog) W 89 3 i0 _ 8 Tryz.underlying89 hi hz0 hz1 hz2 rfl L (by omega) (by omega)
  have HA := Lib.hid a4
  have HL := Lib.hid hL
  have HLB := Lib.hid hLB
  clear a4 hL hLB hu hv
  go_enter Tryz.func92, Tryz.ntmps92
  go_upto_region 4 with (fail)
  refine wp_named fun w1 hw => ?_
  obtain ⟨bm, hbm⟩ : ∃ x, x = w.heap.size := ⟨_, rfl⟩
  obtain ⟨bq, hbq⟩ : ∃ x, x = w.heap.size + 1 := ⟨_, rfl⟩
  obtain ⟨br, hbr⟩ : ∃ x, x = w.heap.size + 1 + 1 := ⟨_, rfl⟩
  have R1 : Row w1 bm 131 [funcV (.slice ob LB cb)] ∧ Row w1 bq 3 ((List.replicate L 0).map natV) ∧ Row w1 br 89 [.slice none 0 0] ∧ Below w.heap.size w w1 := by
    rw [hw, hbm, hbq, hbr]
    refine ⟨((Row.new w _ [funcV (.slice ob LB cb)]).alloc _).alloc _, ?_, ?_, (((Below.refl _ _).alloc (Nat.le_refl _) _).alloc (by simp) _).alloc (by simp; omega) _⟩
    · have := (row_zeros (w.alloc (.cells #[funcV (.slice ob LB cb)] 131)) L 3).alloc (.cells #[.slice none 0 0] 89)
      rw [World.size_alloc, ← zeros_padL] at this
      rw [List.map_replicate]
      exact this
    · have := Row.new ((w.alloc (.cells #[funcV (.slice ob LB cb)] 131)).alloc (.cells (Array.replicate L (.int .i64 0)) 3)) 89 [.slice none 0 0]
      rw [World.size_alloc, World.size_alloc] at this
      exact this
  rw [← hbm] at R1
  rw [← hbr, ← hbq, ← hbm]
  have HR1 := Lib.hid R1
  have HE := Lib.hid (And.intro hbm (And.intro hbq hbr))
  clear hw R1 hbm hbq hbr hmk
  go_wp2_with fail
  go_loopw [9] (fun iv wr => ∃ (k : Nat) (ru : Value) (qs : List Nat), iv = .int .i64 ((k : Int) - 1) ∧ k ≤ L ∧ qs.length = L - k ∧ (∀ x ∈ qs, x < 10000) ∧ In.nv 10000 qs = a / 10000 ^ k / b ∧ NSl wr ru (a / 10000 ^ k % b) ∧
    Row wr bm 131 [funcV (.slice ob LB cb)] ∧ Row wr bq 3 ((List.replicate k 0 ++ qs).map natV) ∧ Row wr br 89 [ru] ∧ Below bm w wr ∧ (∀ blk, ru.ownBlock = some blk → blk ≠ bq)) (fun iv _ => (intOf iv + 1).toNat)
  case atStart =>
    have e : a / 10000 ^ L = 0 := by rw [← HL.out, In.gs_top]
    exact ⟨L, .slice none 0 0, [], rfl, Nat.le_refl _, by simp, (fun x hx => by cases hx), by rw [e]; simp [In.nv], by rw [e, Nat.zero_mod]; exact nsl_zero _, HR1.out.1, by rw [List.append_nil]; exact HR1.out.2.1, HR1.out.2.2.1, HR1.out.2.2.2, (fun blk h => by cases h)⟩
  case round =>
    obtain ⟨k, ru, qs, rfl, hk, hql, hqx, hqv, hru, hRm, hRq, hRr, hB, hfr⟩ := hrel
    clear hfr
    clear HR1
    cases k with
    | zero =>
      rw [Nat.pow_zero, Nat.div_one] at hqv hru
      rw [List.replicate_zero, List.nil_append] at hRq
      rw [show ((0 : Nat) : Int) - 1 = -1 from rfl]
      have hql2 : qs.length = L := by omega
      obtain ⟨ro, rc, rfl, _⟩ := hru.ex
      have CT := Lib.hid (trim_any (some ⟨bq, 0, none⟩) L L qs wr.drew hql2 hqx (Nat.le_refl _) (by omega) (fun h => by cases h) ((row_sl hRq).next (Below.refl _ _).drew))
      rw [hqv] at CT
      have HRU := Lib.hid hru
      have HBW := Lib.hid (show Below w.heap.size w wr from by rw [← HE.out.1]; exact hB)
      have c1 := (Row.cell hRr 0).trans (show _ = some (.slice ro (In.gs (a % b)).length rc) from rfl)
      have c2 : wr.drew.cell? ⟨br, 0, none⟩ = some (.slice ro (In.gs (a % b)).length rc) := c1
      have lbr := hRr.lt
      generalize (In.gs (a % b)).length = RL at *
      clear hql hqx hqv hru hRm hRq hRr hB hql2 HA hk
      go_upto_region 12 with (fail)
      first | (go_region_held3 (fun w' => w'.cell? ⟨br, 0, none⟩ = some (.slice ro RL rc)) (first | assumption | go_keep) (first
        | (go_at_call 119; with_reducible refine Calls.mono CT.out ?_; rintro e wa ⟨q, rfl, hn1, hb1⟩; have HF := Lib.hid (And.intro hn1 (And.intro (HRU.out.next (Below.andThen (Below.refl _ wr).drew hb1)) (Below.andThen HBW.out (Below.andThen (Below.refl _ wr).drew hb1)))); have c3 := ((Below.andThen (Below.refl _ wr).drew hb1).cell (p := ⟨br, 0, none⟩) lbr).trans c1; clear hn1 hb1))) | fail
      go_wp2_with fail
      go_ret2
      exact ⟨_, _, rfl, HF.out⟩
    | succ m =>
      rw [show ((m + 1 : Nat) : Int) - 1 = (m : Int) by omega]
      have HK := Lib.hid (And.intro hql (And.intro hqx (And.intro hqv (And.intro hRm (And.intro hRq hB)))))
      have hx := In.gs_at (n := a) (i := m) (by rw [HL.out]; omega)
      have lx : a / 10000 ^ m % 10000 < 10000 := Nat.mod_lt _ (by decide)
      have HN := Lib.hid (In.quo_next (a := a) (i := m) hb0)
      have HD := Lib.hid (In.quo_digit (a := a) (i := m) hb0)
      have hRlt := Nat.mod_lt (a / 10000 ^ (m + 1)) hb0
      generalize hR0 : a / 10000 ^ (m + 1) % b = R0 at *
      generalize a / 10000 ^ m % 10000 = x at *
      have lR0 : (In.gs R0).length ≤ 900 := Nat.le_trans (gs_len_le (Nat.le_of_lt hRlt)) (by rw [HLB.out]; exact lb)
      have lgt := hRr.lt
      rcases (HA.out.next (hB.mono (by have := HE.out; omega))) with h | ⟨p, off, rfl, hp, hcell⟩
      · rw [h] at hx; simp at hx
      have lam : Below bm w wr := hB
      have c1 := hcell m x hx
      have c2 := (Row.cell hRr 0).trans (show _ = some ru from rfl)
      have HRU := Lib.hid hru
      have HRR := Lib.hid hRr
      obtain ⟨ro, rc, rfl, _⟩ := hru.ex
      generalize hRL : (In.gs R0).length = RL at *
      have HRL := Lib.hid hRL
      clear hRL
      clear hx hcell hql hqx hqv hRm hRq hB lam hru hRr
      have hmL : m < L := by omega
      have hmI : (m : Int) < (L : Int) := by omega
      go_upto_region 7 with (fail)
      go_cut [29] (fun v' wx => ∃ ru', NSl wx ru' (R0 * 10000 + x) ∧ Row wx br 89 [ru'] ∧ (∀ b', b' ≠ br → b' < wr.heap.size → wx.heap[b']? = wr.heap[b']?) ∧ Below br wr wx ∧ (∀ blk, ru'.ownBlock = some blk → blk ≠ bq))
      case first =>
        have c3 : wr.drew.cell? ⟨br, 0, none⟩ = some (.slice ro RL rc) := c2
        have c4 : wr.drew.cell? ⟨p, off + m, none⟩ = some (natV x) := c1
        have hqw : bq < wr.heap.size := by have := HE.out; omega
        have CSH := Lib.hid (shifted_new (.slice ro RL rc) R0 x wr.drew (HRU.out.next (Below.refl _ _).drew) (by rw [HRL.out]; omega) lx)
        go_region_law (first
          | (go_simp; go_at_call 115; with_reducible refine Calls.mono CSH.out ?_; rintro e wa ⟨r1, rfl, hn1, hb1, hf1⟩; have HFR := Lib.hid (show ∀ blk, r1.ownBlock = some blk → blk ≠ bq from fun blk hk hq => by have h1 := hf1 blk hk; have h0 := (Below.refl wr.heap.size wr).drew.size; omega); clear hf1; have hra := HRR.out.drew.next hb1; have k1 := (Row.cell hra 0).trans (show _ = some (.slice ro RL rc) from rfl); have k2 := Row.frozen hra 0; have HA1 := Lib.hid (And.intro hn1 (And.intro hra (show Below wr.heap.size wr wa from Below.andThen (Below.refl _ wr).drew hb1))); obtain ⟨o1, q1, rfl, _⟩ := hn1.ex; clear hn1 hb1 hra))
        all_goals (
          go_simp
          go_wp2_with fail
          go_meet
          exact ⟨_, NSl.set HA1.out.2.1 HA1.out.1 _, HA1.out.2.1.set 0 _, (fun b' hb' hlt => (set_block wa br b' _ hb').trans (HA1.out.2.2.block b' hlt)), ((HA1.out.2.2.mono (Nat.le_of_lt lgt)).setCell (p := ⟨br, 0, none⟩) (Nat.le_refl _) _), HFR.out⟩)
      obtain ⟨ru', hn', hrr', hot, hbr', hfru⟩ := hcut
      have HFRU := Lib.hid hfru
      clear hfru
      rename World => wA
      obtain ⟨hql, hqx, hqv, hRm, hRq, hB⟩ := HK.out
      have hne : bm ≠ br ∧ bq ≠ br := by have := HE.out; omega
      have hRm2 : Row wA bm 131 [funcV (.slice ob LB cb)] := (hot bm hne.1 hRm.lt).trans hRm
      have hRq2 : Row wA bq 3 ((List.replicate (m + 1) 0 ++ qs).map natV) := (hot bq hne.2 hRq.lt).trans hRq
      have hB2 : Below bm w wA := hB.trans (hbr'.mono (by have := HE.out; omega))
      have hvA : NSl wA (.slice ob LB cb) b := HV.out.next (by rw [← HE.out.1]; exact hB2)
      obtain ⟨so, sc, rfl, _⟩ := hn'.ex
      have lR : (In.gs (R0 * 10000 + x)).length ≤ 990 := by
        have h1 : R0 * 10000 + x ≤ b * 10000 := by omega
        have h2 := gs_len_mul b 10000
        have e : (In.gs 10000).length = 2 := by decide
        have h3 := gs_len_le h1
        have := HLB.out
        omega
      have CC := Lib.hid (compare_any _ _ (R0 * 10000 + x) b wA hn' hvA (by omega) (by rw [HLB.out]; omega))
      have HNA := Lib.hid (And.intro hn' (And.intro hvA (And.intro hrr' (And.intro hRm2 (And.intro hRq2 hB2)))))
      have HLR := Lib.hid lR
      have HQ0 := Lib.hid (And.intro hql (And.intro hqx hqv))
      have c5 := (Row.cell hrr' 0).trans (show _ = some (.slice so (In.gs (R0 * 10000 + x)).length sc) from rfl)
      have HCN := Lib.hid (cmpN_neg (R0 * 10000 + x) b)
      generalize hR9 : R0 * 10000 + x = R at *
      generalize hRL9 : (In.gs R).length = RL2 at *
      have HRL2 := Lib.hid hRL9
      clear hn' hrr' hot hbr' hql hqx hqv hRm hRq hB hRm2 hRq2 hB2 hvA lR hRL9 c1 c2 HK
      by_cases hRb : R < b
      · have HD1 := Lib.hid (show decide (In.cmpN R b < 0) = true from by rw [HCN.out]; exact decide_eq_true hRb)
        have d1 : decide (In.cmpN R b < 0) = true := HD1.out
        go_wp2_with fail
        refine Calls.mono CC.out ?_
        rintro e wB ⟨rfl, hb⟩
        have HB9 := Lib.hid hb
        clear hb
        go_wp2_with fail
        obtain ⟨hn', hvA, hrr', hRm2, hRq2, hB2⟩ := HNA.out
        obtain ⟨hql, hqx, hqv⟩ := HQ0.out
        have hb := HB9.out
        obtain ⟨e1, e2⟩ := HN.out
        have e3 : R / b = 0 := Nat.div_eq_of_lt hRb
        have e4 : R % b = R := Nat.mod_eq_of_lt hRb
        refine ⟨⟨m, _, 0 :: qs, by first | rfl | go_num, by omega, by simp [hql]; omega, (fun y hy => by
          rcases List.mem_cons.1 hy with rfl | hy
          · decide
          · exact hqx y hy), ?_, ?_, hRm2.next hb, ?_, hrr'.next hb, hB2.trans (hb.mono (by have := hB2.size; have := hrr'.lt; have := HE.out; omega)), HFRU.out⟩, by simp [intOf]⟩
        · rw [In.nv, hqv, e1, e3]; omega
        · rw [e2, e4]; exact hn'.next hb
        · have h1 : List.replicate (m + 1) 0 ++ qs = List.replicate m 0 ++ (0 :: qs) := by rw [List.replicate_succ', List.append_assoc]; rfl
          rw [← h1]
          exact hRq2.next hb
      · have d1 : decide (In.cmpN R b < 0) = false := by rw [HCN.out]; exact decide_eq_false hRb
        go_wp2_with fail
        refine Calls.mono CC.out ?_
        rintro e wB ⟨rfl, hb⟩
        have HB9 := Lib.hid hb
        have c6 := (hb.cell (p := ⟨br, 0, none⟩) HNA.out.2.2.1.lt).trans c5
        have hRb4 : R < b * 10000 := by
          have h1 := HD.out
          rw [Nat.div_lt_iff_lt_mul hb0] at h1
          rw [Nat.mul_comm]
          exact h1
        have CB := Lib.hid (bounds_any (.slice so RL2 sc) (.slice ob LB cb) R b wB (HNA.out.1.next hb) (HNA.out.2.1.next hb) hb0 hRb4 (by rw [HLB.out]; omega))
        clear hb c5
        go_wp2_with fail
        refine Calls.mono CB.out ?_
        rintro e wC ⟨lo, hi, rfl, hlo, hhi, hi9, hb⟩
        have HC9 := Lib.hid (Below.andThen HB9.out hb)
        have lmA := HNA.out.2.2.2.1.lt
        have lrA := HNA.out.2.2.1.lt
        have hcmA := (Row.cell HNA.out.2.2.2.1 0).trans (show _ = some (funcV (.slice ob LB cb)) from rfl)
        have hcrA := (Row.cell HNA.out.2.2.1 0).trans (show _ = some (.slice so RL2 sc) from rfl)
        have CG := Lib.hid (greatest_over #[.pointer (some ⟨bm, 0, none⟩), .pointer (some ⟨br, 0, none⟩)] lo hi (fun d => decide (b * d ≤ R)) (fun W => Below wA.heap.size wA W) wC (Nat.le_trans hlo hhi) hi9 HC9.out (fun W W' h h' => Below.andThen h h')
          (fun d W hd hJ hs => (over1_any (.slice ob LB cb) (.slice so RL2 sc) b R d bm br W (HNA.out.2.1.next hJ) (HNA.out.1.next hJ) ((hJ.cell (p := ⟨bm, 0, none⟩) lmA).trans hcmA) ((hJ.cell (p := ⟨br, 0, none⟩) lrA).trans hcrA) (Nat.lt_of_lt_of_le lmA hJ.size) (Nat.lt_of_lt_of_le lrA hJ.size) (by rw [HLB.out]; omega) (by rw [HRL2.out]; have := HLR.out; omega) (by omega)).mono fun e w' h => ⟨h.1, Below.andThen hJ h.2, h.2.size, fun b' _ hb' => h.2.block b' hb'⟩)
          (by simp only [decide_eq_true_eq]; rw [Nat.mul_comm]; exact (In.le_div_iff' hb0).2 hlo)
          (fun d e hde _ h => by simp only [decide_eq_true_eq] at h ⊢; exact Nat.le_trans (Nat.mul_le_mul_left _ hde) h))
        have HHI := Lib.hid hhi
        clear hb hcmA hcrA hlo hhi CB c6
        go_wp2_with fail
        refine Calls.mono CG.out ?_
        rintro e wD ⟨k, rfl, hlk, hkh, hPk, hPn, hJ⟩
        have hk : k = R / b := by
          simp only [decide_eq_true_eq, decide_eq_false_iff_not] at hPk hPn
          rw [Nat.mul_comm] at hPk
          have h1 : k ≤ R / b := (In.le_div_iff' hb0).1 hPk
          rcases Nat.lt_or_ge k hi with h | h
          · have h2 := hPn h
            rw [Nat.mul_comm] at h2
            have h3 : ¬ k + 1 ≤ R / b := fun h' => h2 ((In.le_div_iff' hb0).2 h')
            omega
          · have := HHI.out
            omega
        have HKD := Lib.hid hk
        have HJ9 := Lib.hid hJ
        have hRq4 := HNA.out.2.2.2.2.1.next hJ
        have hql := HQ0.out.1
        have k1 := hRq4.cell m
        rw [List.getElem?_map, List.getElem?_append_left (by simp), List.getElem?_replicate, if_pos (by omega), Option.map_some] at k1
        have k2 := hRq4.frozen m
        have HRQ4 := Lib.hid hRq4
        clear hJ hRq4 hPk hPn hk CG
        go_upto_region 11 with (fail)
        refine wp_named fun wE hwE => ?_
        have hB9 := HJ9.out
        have RE : Row wE bm 131 [funcV (.slice ob LB cb)] ∧ Row wE bq 3 ((List.replicate m 0 ++ (k :: qs)).map natV) ∧ Row wE br 89 [.slice so RL2 sc] ∧ NSl wE (.slice so RL2 sc) R ∧ NSl wE (.slice ob LB cb) b ∧ Below bm w wE := by
          rw [hwE]
          have hqm : bq ≠ bm ∧ bq ≠ br := by have := HE.out; omega
          refine ⟨(HNA.out.2.2.2.1.next hB9).other (Ne.symm hqm.1) _ _, ?_, (HNA.out.2.2.1.next hB9).other (Ne.symm hqm.2) _ _, (HNA.out.1.next hB9).far (fun b' off' e _ => HFRU.out b' (by rw [e]; rfl)) _, (HNA.out.2.1.next hB9).far (fun b' off' e hne => ?_) _, (HNA.out.2.2.2.2.2.trans (hB9.mono (by have := HNA.out.2.2.2.1.lt; omega))).setCell (p := ⟨bq, m, none⟩) (show bm ≤ bq by have := HE.out; omega) _⟩
          · have h1 := HRQ4.out.set m (natV k)
            rw [← List.map_set, List.replicate_succ', List.append_assoc, List.set_append_right _ _ (by simp)] at h1
            simpa using h1
          · obtain ⟨o2, c2, e2, _, _, _, h4⟩ := HV.out.ex
            cases e2
            rcases h4 with h4 | ⟨b2, off2, e3, hlt2, _⟩
            · exact absurd h4 hne
            · rw [e] at e3
              cases e3
              have := HE.out
              show b' ≠ bq
              omega
        have HRE := Lib.hid RE
        have m1 := (Row.cell RE.1 0).trans (show _ = some (funcV (.slice ob LB cb)) from rfl)
        have m2 := (Row.cell RE.2.2.1 0).trans (show _ = some (.slice so RL2 sc) from rfl)
        have m3 : wE.cell? ⟨bq, m, none⟩ = some (natV k) := by
          rw [RE.2.1.cell, List.getElem?_map, List.getElem?_append_right (by simp)]
          simp
        clear hwE hB9 RE k1 k2
        have HRW := Lib.hid (fun W (hb : Below wE.heap.size wE W) => HRE.out.2.2.1.next hb)
        have s0 : Below wE.heap.size wE wE.drew := (Below.refl _ _).drew
        have m4 : wE.drew.cell? ⟨bm, 0, none⟩ = some (funcV (.slice ob LB cb)) := m1
        have m5 : wE.drew.cell? ⟨br, 0, none⟩ = some (.slice so RL2 sc) := m2
        have m6 : wE.drew.cell? ⟨bq, m, none⟩ = some (natV k) := m3
        have lm3 := HRE.out.1.lt
        have lq3 := HRE.out.2.1.lt
        have lr3 := HRE.out.2.2.1.lt
        have hk9 : k < 10000 := by have := HKD.out; have := HD.out; omega
        have hbk : b * k ≤ R := by
          rw [HKD.out]
          exact Nat.mul_div_le R b
        have CS := Lib.hid (scaled_any (.slice ob LB cb) b k wE.drew (HRE.out.2.2.2.2.1.next s0) (by rw [HLB.out]; omega) hk9)
        go_region_law (first
          | (go_simp; go_at_call 114; with_reducible refine Calls.mono CS.out ?_; rintro e wF ⟨r1, rfl, hn1, hb1⟩; have HF1 := Lib.hid (And.intro hn1 (Below.andThen s0 hb1)); have n1 := (HF1.out.2.cell (p := ⟨br, 0, none⟩) lr3).trans m2; clear hn1 hb1)
          | (go_simp; go_at_call 104; with_reducible refine Calls.mono (minus_new (.slice so RL2 sc) r1 R (b * k) wF (HRE.out.2.2.2.1.next HF1.out.2) HF1.out.1 (by rw [HRL2.out]; have := HLR.out; omega) hbk) ?_; rintro e wG ⟨r2, rfl, hn2, hb2, hf2⟩; have HG := Lib.hid (And.intro hn2 (And.intro hf2 (Below.andThen HF1.out.2 hb2))); have n2 := (HG.out.2.2.cell (p := ⟨br, 0, none⟩) lr3).trans m2; have n3 := Row.frozen (HRW.out wG HG.out.2.2) 0; obtain ⟨o1, q1, rfl, _⟩ := hn2.ex; clear hn2 hb2 hf2))
        all_goals (
          go_simp
          go_wp2_with fail
          refine ⟨⟨m, _, k :: qs, by first | rfl | go_num, by omega, by simp [HQ0.out.1]; omega, (fun y hy => by
            rcases List.mem_cons.1 hy with rfl | hy
            · exact hk9
            · exact HQ0.out.2.1 y hy), ?_, ?_, (HRE.out.1.next HG.out.2.2).other (show bm ≠ br by have := HE.out; omega) _ _, (HRE.out.2.1.next HG.out.2.2).other (show bq ≠ br by have := HE.out; omega) _ _, (HRW.out _ HG.out.2.2).set 0 _, ?_, ?_⟩, by simp [intOf]⟩
          · rw [In.nv, HQ0.out.2.2, HN.out.1, HKD.out]; omega
          · have h1 := NSl.set (HRW.out _ HG.out.2.2) HG.out.1 (.slice o1 (In.gs (R - b * k)).length q1)
            have h2 : a / 10000 ^ m % b = R - b * k := by
              rw [HN.out.2, HKD.out]
              have := Nat.mod_add_div R b
              omega
            rw [h2]
            exact h1
          · exact (HRE.out.2.2.2.2.2.trans (HG.out.2.2.mono (Nat.le_of_lt lm3))).setCell (p := ⟨br, 0, none⟩) (show bm ≤ br by have := HE.out; omega) _
          · intro blk hk0 hq0
            have h1 := HG.out.2.1 blk hk0
            have h2 := HF1.out.2.size
            omega)
end Go.Proofs.YtlehjmanlccncaaGreatDoor
set_option linter.unusedVariables false
set_option linter.unusedSimpArgs false
namespace Go.Proofs.YtlehjmanlccncaaGreatDoor
open Go.RowKit

abbrev rootL (i d : Nat) (qs : List Nat) : List Nat := List.replicate i 0 ++ d :: qs
theorem rootL_len (i d : Nat) (qs : List Nat) : (rootL i d qs).length = i + 1 + qs.length := by simp [rootL]; omega
theorem rootL_lt {i d : Nat} {qs : List Nat} (hd : d < 10000) (hq : ∀ x ∈ qs, x < 10000) : ∀ x ∈ rootL i d qs, x < 10000 := by
  intro x hx
  rcases List.mem_append.1 hx with h | h
  · rw [List.eq_of_mem_replicate h]; decide
  · rcases List.mem_cons.1 h with rfl | h
    · exact hd
    · exact hq x h
theorem rootL_nv (i d : Nat) (qs : List Nat) : In.nv 10000 (rootL i d qs) = In.nv 10000 qs * 10000 ^ (i + 1) + d * 10000 ^ i := by
  rw [In.nv_append, In.nv_zeros, List.length_replicate, In.nv, Nat.zero_add, Nat.pow_succ, Nat.mul_add, Nat.mul_comm (10000 ^ i) d, Nat.add_comm]
  congr 1
  rw [Nat.mul_comm (10000 ^ i), Nat.mul_comm 10000, Nat.mul_assoc, Nat.mul_comm 10000]
theorem rootL_set (i d d0 : Nat) (qs : List Nat) : ((rootL i d0 qs).map natV).set i (natV d) = (rootL i d qs).map natV := by
  rw [← List.map_set]
  congr 1
  rw [List.set_append_right _ _ (by simp)]
  simp
theorem NSl.own {w : World} {v : Value} {n : Nat} (h : NSl w v n) : ∀ b off, v.ownBlock = some b → v.ownBlock = some off → b = off := fun _ _ h1 h2 => Option.some.inj (h1.symm.trans h2)
theorem NSl.lt {w : World} {o : Option Addr} {L c n b off : Nat} (h : NSl w (.slice o L c) n) (e : o = some ⟨b, off, none⟩) (hne : In.gs n ≠ []) : b < w.heap.size := by
  obtain ⟨o', c', e', h1, h2, h3, h4⟩ := h.ex
  cases e'
  rcases h4 with h4 | ⟨p, q, e2, hp, _⟩
  · exact absurd h4 hne
  · rw [e] at e2; cases e2; exact hp
end Go.Proofs.YtlehjmanlccncaaGreatDoor
set_option linter.unusedVariables false
set_option linter.unusedSimpArgs false
namespace Go.Proofs.YtlehjmanlccncaaGreatDoor
open Go.RowKit

theorem root_start {a L : Nat} (h : a / 10000 ^ L = 0) : a < (10000 ^ ((L + 1) / 2)) * (10000 ^ ((L + 1) / 2)) := by
  have h1 : a < 10000 ^ L := (Nat.div_eq_zero_iff_lt (Nat.pow_pos (by decide))).1 h
  rw [← Nat.pow_add]
  exact Nat.lt_of_lt_of_le h1 (Nat.pow_le_pow_right (by decide) (by omega))
end Go.Proofs.YtlehjmanlccncaaGreatDoor
set_option linter.unusedVariables false
set_option linter.unusedSimpArgs false
namespace Go.Proofs.YtlehjmanlccncaaGreatDoor
open Go.RowKit

namespace In
theorem parseU_is : ∀ (l : List UInt8) (acc : Nat), (∀ c ∈ l, isDig c = true) → acc < 18446744073709551616 →
    Lib.parseUint10 acc l = if 10 ^ l.length * acc + val10 l < 18446744073709551616 then .ok (10 ^ l.length * acc + val10 l) else .range := by
  intro l
  induction l with
  | nil =>
    intro acc _ ha
    simp [Lib.parseUint10, val10, ha]
  | cons c r ih =>
    intro acc h ha
    have hc := h c List.mem_cons_self
    have hr := fun x hx => h x (List.mem_cons_of_mem c hx)
    simp only [isDig, Bool.and_eq_true, decide_eq_true_eq] at hc
    have e : 10 ^ (c :: r).length * acc + val10 (c :: r) = 10 ^ r.length * (acc * 10 + (c.toNat - 48)) + val10 r := by
      rw [val10_cons, List.length_cons, Nat.pow_succ, Nat.mul_add, Nat.mul_comm acc 10, ← Nat.mul_assoc, Nat.add_assoc]
      rfl
    rw [e]
    have hp : 1 ≤ 10 ^ r.length := Nat.pow_pos (by decide)
    have hge : acc * 10 + (c.toNat - 48) ≤ 10 ^ r.length * (acc * 10 + (c.toNat - 48)) := Nat.le_mul_of_pos_left _ hp
    simp only [Lib.parseUint10]
    rw [if_pos hc]
    by_cases h1 : 1844674407370955162 ≤ acc
    · rw [if_pos h1, if_neg (by omega)]
    · rw [if_neg h1]
      by_cases h2 : 18446744073709551616 ≤ acc * 10 + (c.toNat - 48)
      · rw [if_pos h2, if_neg (by omega)]
      · rw [if_neg h2, ih _ hr (by omega)]
theorem parseMag_dec (u : Nat) : Lib.parseMag (Lib.decDigits u) = if u < 18446744073709551616 then .ok u else .range := by
  unfold Lib.parseMag
  rw [if_neg (dec_ne u), parseU_is _ 0 (dec_dig u) (by decide), Nat.mul_zero, Nat.zero_add, dec_val]
theorem atoi_txt (z : Int) : Lib.atoiAll (txtL z) = if -9223372036854775808 ≤ z ∧ z ≤ 9223372036854775807 then .ok z else .range := by
  unfold txtL Lib.itoa
  by_cases h : z < 0
  · rw [if_pos h, Lib.atoiAll_minus, parseMag_dec]
    by_cases h1 : z.natAbs < 18446744073709551616
    · rw [if_pos h1]
      simp only [Lib.signed]
      by_cases h2 : 9223372036854775808 < z.natAbs
      · rw [if_pos h2, if_neg (by omega)]
      · rw [if_neg h2, if_pos (by omega)]
        congr 1
        omega
    · rw [if_neg h1, if_neg (by omega)]
      rfl
  · rw [if_neg h]
    obtain ⟨c, r, hc⟩ : ∃ c r, Lib.decDigits z.toNat = c :: r := by
      cases hq : Lib.decDigits z.toNat with
      | nil => exact absurd hq (dec_ne _)
      | cons c r => exact ⟨c, r, rfl⟩
    have hd := dec_dig z.toNat c (by rw [hc]; exact List.mem_cons_self)
    simp only [isDig, Bool.and_eq_true, decide_eq_true_eq] at hd
    have hp := parseMag_dec z.toNat
    rw [hc] at hp ⊢
    rw [Lib.atoiAll_plain c r (by omega) (by omega), hp]
    by_cases h1 : z.toNat < 18446744073709551616
    · rw [if_pos h1]
      simp only [Lib.signless]
      by_cases h2 : 9223372036854775808 ≤ z.toNat
      · rw [if_pos h2, if_neg (by omega)]
      · rw [if_neg h2, if_pos (by omega)]
        congr 1
        omega
    · rw [if_neg h1, if_neg (by omega)]
      rfl
end In
end Go.Proofs.YtlehjmanlccncaaGreatDoor
set_option linter.unusedVariables false
set_option linter.unusedSimpArgs false
namespace Go.Proofs.YtlehjmanlccncaaGreatDoor
open Go.RowKit

theorem own_nats {w : World} {B : Nat} {t : TypeId} {v : Value} {n : Nat} {xs : List Nat} (h : w.ownsRow B t 1 v n (xs.map natV)) : ∃ o c, v = .slice o n c ∧ n ≤ c ∧ c ≤ maxLen ∧ (o = none → c = 0) ∧ LSl w o xs := by
  have h0 := h
  have hl : xs.length = n := by simpa using h.1
  rcases h.2 with ⟨rfl, rfl⟩ | ⟨g, cap, cur, rfl, hg, hb, h1, h2, _⟩
  · exact ⟨none, 0, rfl, Nat.le_refl _, by unfold maxLen; omega, fun _ => rfl, .inl (List.eq_nil_of_length_eq_zero hl)⟩
  · exact ⟨_, cap, rfl, h1, h2, fun h => (by cases h), own_lsl h0⟩
/-- the bytes of a string are digits -/
def Digs (s : ByteArray) : Prop := ∀ c ∈ s.data.toList, In.isDig c = true
theorem ext_list (s : ByteArray) (a b : Nat) : (s.extract a b).data.toList = (s.data.toList.take b).drop a := by
  simp [ByteArray.data_extract, Array.toList_extract, List.extract_eq_take_drop, List.drop_take]
theorem take_val {l : List UInt8} {k : Nat} {c : UInt8} (h : l[k]? = some c) : In.val10 (l.take (k + 1)) = 10 * In.val10 (l.take k) + In.dval c := by
  rw [List.take_add_one, h, Option.toList_some, In.val10_snoc]
theorem ba_at (s : ByteArray) (i : Nat) (h : i < s.size) : s.data.toList[i]? = some (s[i]'h) := by
  rw [List.getElem?_eq_getElem (by simpa using h)]
  simp
  rfl
set_option maxRecDepth 100000 in
set_option maxHeartbeats 2000000 in
theorem parseN_any (s : ByteArray) (w : World) (hd : Digs s) (hs : s.size ≤ 1000) :
    Calls Tryz.prog 123 #[.string s] w fun e w' => ∃ r, e = .returned r ∧ NSl w' r (In.val10 s.data.toList) ∧ Below w.heap.size w w' := by
  obtain ⟨i0, hi, hz0, hz1, hz2⟩ := info_parts infoInt
  have HD := Lib.hid hd
  obtain ⟨l, hl⟩ : ∃ l, l = s.data.toList := ⟨_, rfl⟩
  have HLS := Lib.hid hl
  have hll : l.length = s.size := by rw [hl]; simp
  have HLL := Lib.hid hll
  rw [← hl]
  clear hd hl hll
  go_enter Tryz.func123, Tryz.ntmps123
  go_wp2_with fail
  go_loopw [3, 4] (fun av ev wr => ∃ (z : Int) (ds : List Nat), ev = .int .i64 z ∧ z ≤ s.size ∧ -4 ≤ z ∧ wr.ownsRow w.heap.size 3 1 av ds.length (ds.map natV) ∧ 4 * (ds.length : Int) ≤ (s.size : Int) - z ∧ (∀ x ∈ ds, x < 10000) ∧ In.nv 10000 ds + 10000 ^ ds.length * In.val10 (l.take z.toNat) = In.val10 l ∧ Below w.heap.size w wr) (fun _ ev _ => (intOf ev).toNat)
  case atStart => exact ⟨s.size, [], rfl, by omega, by omega, World.ownsRow_nil _ _ _ _, by simp, (fun x hx => by cases hx), by rw [Int.toNat_natCast, List.take_of_length_le (by rw [HLL.out]; exact Nat.le_refl _)]; simp [In.nv], Below.refl _ _⟩
  case round =>
    obtain ⟨z, ds, rfl, hz, hz4, hrow, hlen, hlt, hval, hB⟩ := hrel
    by_cases h0 : 0 < z
    · obtain ⟨e, rfl⟩ := Int.eq_ofNat_of_zero_le (Int.le_of_lt h0)
      have HK := Lib.hid (And.intro hlt (And.intro hval hB))
      rw [Int.toNat_natCast] at HK
      have hm : max 0 ((e : Int) - 4) = ((e - 4 : Nat) : Int) := by omega
      obtain ⟨p, hp⟩ : ∃ p, p = s.extract (e - 4) e := ⟨_, rfl⟩
      have hpl : p.data.toList = (l.take e).drop (e - 4) := by rw [hp, ext_list, HLS.out]
      have HP := Lib.hid hpl
      have hps : p.size = e - (e - 4) := by rw [hp, ByteArray.size_extract]; omega
      have hps4 : p.size ≤ 4 := by omega
      have HPD := Lib.hid (show ∀ c ∈ p.data.toList, In.isDig c = true from fun c hc => HD.out c (by
        rw [← HLS.out]
        rw [hpl] at hc
        exact List.mem_of_mem_take (List.mem_of_mem_drop hc)))
      have hx : s.extract (e - 4) e = p := hp.symm
      have e1 : e - 4 ≤ e := by omega
      have hr := hB.size
      clear hlt hval hB hpl hps hp
      go_wp2_with fail
      go_loopw [5] (fun gv wx => ∃ pos : Nat, pos ≤ p.size ∧ gv = .int .i64 (In.val10 (p.data.toList.take pos) : Nat) ∧ wx = wr.iter p pos) (fun _ wx => p.size - wx.iterPos wr.heap.size)
      case atStart => exact ⟨0, Nat.zero_le _, rfl, rfl⟩
      case round =>
        obtain ⟨pos, hpos, rfl, rfl⟩ := hrel
        by_cases hlt : pos < p.size
        · have hc := ba_at p pos hlt
          have hcd := HPD.out _ (List.mem_of_getElem? hc)
          simp only [In.isDig, Bool.and_eq_true, decide_eq_true_eq] at hcd
          have HN := Lib.hid (take_val hc)
          have hb := In.val10_lt (p.data.toList.take pos) (fun c hc => HPD.out c (List.mem_of_mem_take hc))
          have hb4 : In.val10 (p.data.toList.take pos) < 10000 := by
            refine Nat.lt_of_lt_of_le hb ?_
            have : (p.data.toList.take pos).length ≤ 4 := by rw [List.length_take]; omega
            exact Nat.pow_le_pow_right (n := 10) (by decide) this
          have hn := fun ty => run_next_ascii (P := Tryz.prog) wr p pos ty hlt (by omega)
          unfold In.dval at HN
          clear hc hb
          generalize (p[pos]'hlt).toNat = x at *
          generalize In.val10 (p.data.toList.take pos) = acc at *
          have w1 : IntKind.i32.wrap ((x : Int) - 48) = (x : Int) - 48 := by simp [IntKind.wrap, IntKind.bits, IntKind.signed]; omega
          go_wp2_with fail
          go_roundw
          case rel => exact ⟨pos + 1, hlt, by rw [HN.out]; go_num, rfl⟩
          case measure => simp [World.iterPos, World.iter_heap]; omega
        · obtain rfl : pos = p.size := by omega
          rw [List.take_of_length_le (by simp)]
          have hgl := In.val10_lt p.data.toList HPD.out
          have hg4 : In.val10 p.data.toList < 10000 := by
            refine Nat.lt_of_lt_of_le hgl ?_
            have : p.data.toList.length ≤ 4 := by simpa using hps4
            exact Nat.pow_le_pow_right (n := 10) (by decide) this
          have HN := Lib.hid (show In.nv 10000 (ds ++ [In.val10 p.data.toList]) + 10000 ^ (ds.length + 1) * In.val10 (l.take (e - 4)) = In.val10 l from by
            rw [HP.out]
            exact In.read_next rfl (by rw [HLL.out]; omega) (by omega) HK.out.2.1)
          have hn := fun ty => run_next_end (P := Tryz.prog) wr p p.size ty (Nat.lt_irrefl _)
          have hrow2 : (wr.iter p p.size).ownsRow w.heap.size 3 1 u3 ds.length (ds.map natV) := hrow.alloc _
          have hob := Lib.hid (own_block hrow)
          clear hgl hrow
          generalize In.val10 p.data.toList = g at *
          go_wp2_with (at_builtin; refine wpList_append_nats rfl _ _ 89 Tryz.underlying89 rfl rfl w.heap.size u3 ds.length ds rfl (hrow2.alloc _) (some ⟨(wr.iter p p.size).heap.size, 0, none⟩) 1 1 [g] rfl rfl (fun h => by cases h) (row_sl (Row.new _ 3 [natV g])) (by omega) (by simp [World.iter]; omega) ?_; intro v' w1 hown' hgrow; have K := Lib.hid (And.intro hown' hgrow); clear hown' hgrow hrow2)
          go_roundw
          case rel =>
            obtain ⟨k1, k2⟩ := K.out
            refine ⟨(e : Int) - 4, ds ++ [g], by go_num, by omega, by omega, by rw [List.length_append]; exact k1, by rw [List.length_append]; simp; omega, lt_snoc HK.out.1 hg4, ?_, ?_⟩
            · rw [List.length_append, show ((e : Int) - 4).toNat = e - 4 by omega]
              exact HN.out
            · exact ((HK.out.2.2.alloc hr (.stringIter p p.size)).alloc (by simp; omega) _).grown k2 (by simp [World.iter]; omega) hob.out
          case measure => simp [intOf]; omega
    · obtain ⟨o, c, rfl, h1, h2, h3, h4⟩ := own_nats hrow
      unfold maxLen at h2
      have hv : In.nv 10000 ds = In.val10 l := by
        rw [show z.toNat = 0 by omega, List.take_zero] at hval
        simpa [In.val10] using hval
      have CT := Lib.hid (trim_any o ds.length c ds wr rfl hlt h1 (by omega) h3 h4)
      rw [hv] at CT
      have HB := Lib.hid hB
      clear hlt hval hB hrow h1 h2 h3 h4 hv
      generalize ds.length = n at *
      go_wp2_with fail
      with_reducible refine Calls.mono CT.out ?_
      rintro e w3 ⟨r, rfl, hn, hb⟩
      have HF := Lib.hid (And.intro hn (Below.andThen HB.out hb))
      clear hn hb
      go_wp2_with fail
      go_ret
      exact ⟨_, rfl, HF.out⟩
end Go.Proofs.YtlehjmanlccncaaGreatDoor
