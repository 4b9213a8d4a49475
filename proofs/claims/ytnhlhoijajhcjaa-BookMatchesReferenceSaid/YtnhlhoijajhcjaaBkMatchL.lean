/- BookMatchesReference. -/
import Derived.Test.YtnhlhoijajhcjaaBkAA
set_option linter.unusedVariables false
set_option linter.unusedSimpArgs false
namespace Go.Proofs.Ytnhlhoijajhcjaa
open Go.RowKit
namespace Bk
open Sq
set_option maxRecDepth 100000 in
set_option maxHeartbeats 16000000 in
theorem match_walk (racc rcl : Int) (ro : Option Addr) (rN rc : Nat) (rl : List Po) (na : Int) (ol : Option Addr) (n cap : Nat) (L : List F5) (kind pday deb cre amt sub of ii day amount month : Int) (w : World) (hK : inI racc ∧ inI rcl ∧ (∀ p ∈ rl, p.fit) ∧ BkW w ro rN rc rl) (hna : inI na) (hV : Fv w ol n L)
    (h0 : inI kind) (h1 : inI pday) (h2 : inI deb) (h3 : inI cre) (h4 : inI amt) (h5 : inI sub) (h6 : inI of) (hii : inI ii) (hday : inI day) (hamo : inI amount) (hmo : inI month) :
    Calls Try.prog 3 #[bookV racc ro rN rc rcl, .int .i64 na, .slice ol n cap, .agg #[.int .i64 kind, .int .i64 pday, .int .i64 deb, .int .i64 cre, .int .i64 amt, .int .i64 sub, .int .i64 of], .int .i64 ii, .int .i64 day, .int .i64 amount, .int .i64 month] w fun e w' => e = .returned (.bool true) ∧ Below w.heap.size w w' := by
  have BB := Lib.hid (Below.refl w.heap.size w)
  have HV := Lib.hid hV
  have BR := Lib.hid hK.2.2.2
  have BRw := BR
  have HVw := HV
  have HFit := Lib.hid hK.2.2.1
  have CM := Lib.hid (fun W (h : Fv W ol n L) => rMade_any na ol n cap L W hna h.1 h.2.1 h.2.2.1 h.2.2.2)
  clear hV hna hK
  go_enter Try.func3, Try.ntmps3
  go_upto_region 1 with (fail)
  refine wp_named fun w1 hq => ?_
  obtain ⟨b8, e8⟩ : ∃ b, b = w.heap.size := ⟨_, rfl⟩
  obtain ⟨b11, e11⟩ : ∃ b, b = w.heap.size + 1 := ⟨_, rfl⟩
  obtain ⟨r0, r1, hB, hs⟩ := rows2 w 24 27 [.int .i64 racc, .slice ro rN rc, .int .i64 rcl] [.int .i64 kind, .int .i64 pday, .int .i64 deb, .int .i64 cre, .int .i64 amt, .int .i64 sub, .int .i64 of] w1 hq
  rw [← e11, ← e8]
  rw [← e8] at r0
  rw [← e11] at r1
  have R8 := Lib.hid r0
  have RP := Lib.hid r1
  have hb8 : w.heap.size ≤ b8 := by omega
  have n118 : b11 ≠ b8 := by omega
  replace HV := Lib.hid (HV.out.next hB)
  replace BR := Lib.hid (BR.out.next hB)
  replace BB := Lib.hid (Below.andThen BB.out hB)
  clear hq e8 e11 hB hs r0 r1
  go_wp2_with fail
  with_reducible refine Calls.mono (sane_any _) ?_
  rintro e w2 ⟨rfl, hb⟩
  have BR0 := BR
  have hw1 := hb.size
  replace HV := Lib.hid (HV.out.next hb)
  replace BR := Lib.hid (BR.out.next hb)
  replace R8 := Lib.hid (R8.out.next hb)
  replace RP := Lib.hid (RP.out.next hb)
  replace BB := Lib.hid (Below.andThen BB.out hb)
  clear hb
  have a0 := R8.out.cell 0
  have a1 := R8.out.cell 1
  have a2 := R8.out.cell 2
  have la := R8.out.lt
  simp only [List.getElem?_cons_zero, List.getElem?_cons_succ] at a0 a1 a2
  have fa1 := R8.out.frozen 1
  obtain ⟨M, hM⟩ : ∃ M : Nat, min (rN : Int) 8 = M := ⟨(min (rN : Int) 8).toNat, by omega⟩
  have hM8 : M ≤ 8 := by omega
  have hMN : M ≤ rN := by omega
  have hMc : (M : Int) ≤ rc := by have := BR.out.2.1; omega
  have hM0 : (0 : Int) ≤ M := by omega
  have hrN := BR.out.2.1
  have hrc := BR.out.2.2.1
  go_upto_region 2 with (fail)
  go_cut [] (fun wx => Row wx b8 24 [.int .i64 racc, .slice ro M rc, .int .i64 rcl] ∧ wx = w2.setCell ⟨b8, 1, none⟩ (.slice ro M rc))
  case first =>
    cases ro with
    | none =>
      go_wp2_with fail
      go_meet
      exact ⟨R8.out.set 1 _, rfl⟩
    | some aq =>
      go_wp2_with fail
      go_meet
      exact ⟨R8.out.set 1 _, rfl⟩
  obtain ⟨hR8, hwx⟩ := hcut
  rename World => w3
  clear a0 a1 a2 la fa1
  replace R8 := Lib.hid hR8
  replace RP := Lib.hid (show Row w3 b11 _ _ from by rw [hwx]; exact RP.out.other n118 _ _)
  replace HV := Lib.hid (show Fv w3 ol n L from by rw [hwx]; exact fv_apart HV.out HVw.out hb8 _)
  replace BB := Lib.hid (show Below w.heap.size w w3 from by rw [hwx]; exact BB.out.setCell (p := ⟨b8, 1, none⟩) hb8 _)
  have HX1 := Lib.hid (show (Bd.mk racc rcl ro M rc (rl.take M)).ok w3 from ⟨bkw_take (by rw [hwx]; exact BR.out.apart BRw.out hb8 _) hMN, by show M ≤ 48; omega, fun p hp => (HFit.out p (List.mem_of_mem_take hp)).2.1⟩)
  clear hR8 hwx BR BR0 BRw HVw hM hMN hMc hM0 hrN hrc
  have a0 := R8.out.cell 0
  have a1 := R8.out.cell 1
  have a2 := R8.out.cell 2
  have la := R8.out.lt
  simp only [List.getElem?_cons_zero, List.getElem?_cons_succ] at a0 a1 a2
  go_upto_region 3 with (fail)
  (go_region_held3 (fun w' => w'.cell? ⟨b8, 0, none⟩ = some (.int .i64 racc) ∧ w'.cell? ⟨b8, 1, none⟩ = some (.slice ro M rc) ∧ w'.cell? ⟨b8, 2, none⟩ = some (.int .i64 rcl)) (first | exact ⟨by assumption, by assumption, by assumption⟩ | go_keep)
    ((go_at_call 8; refine Calls.mono (CM.out _ (HV.out.next (by repeat (first | exact Below.refl _ _ | refine Below.drew ?_)))) ?_; rintro e w4 ⟨B, o2, N2, c2, rfl, hw, hG, hb⟩; have HB4 := Lib.hid (show Below w3.heap.size w3 w4 from Below.andThen (by repeat (first | exact Below.refl _ _ | refine Below.drew ?_)) hb); have BM := Lib.hid hw; have HG := Lib.hid hG; clear hb hw hG; have t0 := (R8.out.next HB4.out).cell 0; have t1 := (R8.out.next HB4.out).cell 1; have t2 := (R8.out.next HB4.out).cell 2; simp only [List.getElem?_cons_zero, List.getElem?_cons_succ] at t0 t1 t2; have lt8 := (R8.out.next HB4.out).lt)))
  go_wp2_with fail
  clear t0 t1 t2 lt8
  clear a0 a1 a2 la
  refine wp_named fun wl hq => ?_
  obtain ⟨bS, eS⟩ : ∃ b, b = w4.heap.size := ⟨_, rfl⟩
  have RS := Lib.hid (show Row wl bS 24 [.int .i64 racc, .slice ro M rc, .int .i64 rcl, .int .i64 B.acc, .slice o2 N2 c2, .int .i64 B.cl] from by rw [hq, eS]; first | exact Row.new w4 _ _ | exact (Row.new w4 _ _).drew)
  have hB : Below w4.heap.size w4 wl := by rw [hq]; (repeat' first | exact Below.refl _ _ | assumption | (refine below_drewN ?_ _) | (refine Below.drew ?_) | (refine Below.alloc ?_ ?_ _) | (refine Below.setCell ?_ ?_ _) | (simp; done) | (simp; omega) | omega)
  have HB := Lib.hid (Below.andThen HB4.out hB)
  replace BB := Lib.hid (Below.andThen BB.out HB.out)
  replace RP := Lib.hid (RP.out.next HB.out)
  have TW := Lib.hid (show Two wl bS ⟨racc, rcl, ro, M, rc, rl.take M⟩ ⟨B.acc, B.cl, o2, N2, c2, B.l⟩ from ⟨RS.out, HX1.out.next HB.out, ⟨BM.out.next hB, by have := BM.out.1; have := HG.out.2.2.1; show N2 ≤ 48; omega, HG.out.2.1.days⟩⟩)
  rw [← eS]
  clear hq eS hB HB HB4 RS HX1 BM HG R8 HV CM
  generalize (Bd.mk racc rcl ro M rc (rl.take M)) = X1 at *
  generalize (Bd.mk B.acc B.cl o2 N2 c2 B.l) = X2 at *
  go_loopw [67] (fun jv wr => ∃ j : Nat, jv = .int .i64 j ∧ j ≤ 2 ∧ Below wl.heap.size wl wr) (fun jv _ => 2 - (intOf jv).toNat)
  case atStart => exact ⟨0, rfl, Nat.zero_le _, Below.refl _ _⟩
  case round =>
    obtain ⟨j, rfl, hj, hx⟩ := hrel
    rename World => wr
    replace RP := Lib.hid (RP.out.next hx)
    replace TW := Lib.hid (TW.out.next hx)
    replace BB := Lib.hid (Below.andThen BB.out hx)
    have BL0 := Lib.hid hx
    clear hx
    by_cases hlt : j < 2
    · obtain ⟨Z, hZ, lS, s0, s1, s2⟩ := TW.out.at hlt
      obtain ⟨acc, cl, o, N, c, l⟩ := Z
      obtain ⟨hbw, hN48, hdays⟩ := hZ
      dsimp only at hbw hN48 hdays s0 s1 s2
      have BW := Lib.hid hbw
      have HD := Lib.hid hdays
      have HL := Lib.hid hbw.1
      have i0 : (0 : Int) ≤ j := by omega
      have i1 : (j : Int) < 2 := by omega
      clear hbw hdays
      go_upto_region 6 with (fail)
      clear s0 s1 s2 lS
      refine wp_named fun w5 hq => ?_
      obtain ⟨bB, eb⟩ : ∃ b, b = wr.heap.size := ⟨_, rfl⟩
      have RB := Lib.hid (show Row w5 bB 24 [.int .i64 acc, .slice o N c, .int .i64 cl] from by rw [hq, eb]; exact Row.new wr _ _)
      have hB : Below wr.heap.size wr w5 := by rw [hq]; (repeat' first | exact Below.refl _ _ | assumption | (refine below_drewN ?_ _) | (refine Below.drew ?_) | (refine Below.alloc ?_ ?_ _) | (refine Below.setCell ?_ ?_ _) | (simp; done) | (simp; omega) | omega)
      replace RP := Lib.hid (RP.out.next hB)
      replace BW := Lib.hid (BW.out.next hB)
      replace TW := Lib.hid (TW.out.next hB)
      replace BB := Lib.hid (Below.andThen BB.out hB)
      replace BL0 := Lib.hid (Below.andThen BL0.out hB)
      rw [← eb]
      clear hq hB eb
      obtain ⟨x, hx⟩ : ∃ x, postB acc l cl ⟨kind, pday, deb, cre, amt, sub, of⟩ = x := ⟨_, rfl⟩
      have C1 := Lib.hid (fun W (h : BkW W o N c l) => (show Calls Try.prog 9 #[bookV acc o N c cl, .agg #[.int .i64 kind, .int .i64 pday, .int .i64 deb, .int .i64 cre, .int .i64 amt, .int .i64 sub, .int .i64 of]] W fun e w' => BoNEr W.heap.size x N e w' ∧ Below W.heap.size W w' from by rw [← hx]; exact Post_u acc cl o N c l ⟨kind, pday, deb, cre, amt, sub, of⟩ W (by omega) h1 h))
      have C2 := Lib.hid (fun W (h : BkW W o N c l) => (show Calls Try.prog 10 #[bookV acc o N c cl, .agg #[.int .i64 kind, .int .i64 pday, .int .i64 deb, .int .i64 cre, .int .i64 amt, .int .i64 sub, .int .i64 of]] W fun e w' => BoNEr W.heap.size x N e w' ∧ Below W.heap.size W w' from by rw [← hx]; exact rPost_u acc cl o N c l ⟨kind, pday, deb, cre, amt, sub, of⟩ W (by omega) h1 h))
      have HLX := Lib.hid (show (boV x).l.length ≤ N + 1 from by rw [← hx]; exact postB_len HL.out)
      clear hx
      have a0 := RB.out.cell 0
      have a1 := RB.out.cell 1
      have a2 := RB.out.cell 2
      have la := RB.out.lt
      simp only [List.getElem?_cons_zero, List.getElem?_cons_succ] at a0 a1 a2
      have p0 := RP.out.cell 0
      have p1 := RP.out.cell 1
      have p2 := RP.out.cell 2
      have p3 := RP.out.cell 3
      have p4 := RP.out.cell 4
      have p5 := RP.out.cell 5
      have p6 := RP.out.cell 6
      have lp := RP.out.lt
      simp only [List.getElem?_cons_zero, List.getElem?_cons_succ] at p0 p1 p2 p3 p4 p5 p6
      go_wp2_with fail
      with_reducible refine Calls.mono (C1.out _ BW.out) ?_
      rintro e w6 ⟨⟨o5, N5, c5, rfl, hw, -⟩, hb⟩
      replace RP := Lib.hid (RP.out.next hb)
      replace BW := Lib.hid (BW.out.next hb)
      replace TW := Lib.hid (TW.out.next hb)
      replace RB := Lib.hid (RB.out.next hb)
      replace BB := Lib.hid (Below.andThen BB.out hb)
      replace BL0 := Lib.hid (Below.andThen BL0.out hb)
      have B5 := Lib.hid hw
      clear hw C1
      clear hb
      clear a0 a1 a2 la
      clear p0 p1 p2 p3 p4 p5 p6 lp
      go_upto_region 7 with (fail)
      refine wp_named fun w7 hq => ?_
      obtain ⟨bC, eb⟩ : ∃ b, b = w6.heap.size := ⟨_, rfl⟩
      have RC := Lib.hid (show Row w7 bC 24 [.int .i64 (boV x).acc, .slice o5 N5 c5, .int .i64 (boV x).cl] from by rw [hq, eb]; exact Row.new w6 _ _)
      have hB : Below w6.heap.size w6 w7 := by rw [hq]; (repeat' first | exact Below.refl _ _ | assumption | (refine below_drewN ?_ _) | (refine Below.drew ?_) | (refine Below.alloc ?_ ?_ _) | (refine Below.setCell ?_ ?_ _) | (simp; done) | (simp; omega) | omega)
      replace RP := Lib.hid (RP.out.next hB)
      replace BW := Lib.hid (BW.out.next hB)
      replace TW := Lib.hid (TW.out.next hB)
      replace RB := Lib.hid (RB.out.next hB)
      replace B5 := Lib.hid (B5.out.next hB)
      replace BB := Lib.hid (Below.andThen BB.out hB)
      replace BL0 := Lib.hid (Below.andThen BL0.out hB)
      rw [← eb]
      clear hq hB eb
      have a0 := RB.out.cell 0
      have a1 := RB.out.cell 1
      have a2 := RB.out.cell 2
      have la := RB.out.lt
      simp only [List.getElem?_cons_zero, List.getElem?_cons_succ] at a0 a1 a2
      have p0 := RP.out.cell 0
      have p1 := RP.out.cell 1
      have p2 := RP.out.cell 2
      have p3 := RP.out.cell 3
      have p4 := RP.out.cell 4
      have p5 := RP.out.cell 5
      have p6 := RP.out.cell 6
      have lp := RP.out.lt
      simp only [List.getElem?_cons_zero, List.getElem?_cons_succ] at p0 p1 p2 p3 p4 p5 p6
      go_wp2_with fail
      with_reducible refine Calls.mono (C2.out _ BW.out) ?_
      rintro e w8 ⟨⟨o6, N6, c6, rfl, hw, -⟩, hb⟩
      replace RP := Lib.hid (RP.out.next hb)
      replace BW := Lib.hid (BW.out.next hb)
      replace TW := Lib.hid (TW.out.next hb)
      replace RB := Lib.hid (RB.out.next hb)
      replace B5 := Lib.hid (B5.out.next hb)
      replace RC := Lib.hid (RC.out.next hb)
      replace BB := Lib.hid (Below.andThen BB.out hb)
      replace BL0 := Lib.hid (Below.andThen BL0.out hb)
      have B6 := Lib.hid hw
      clear hw C2
      clear hb
      clear a0 a1 a2 la
      clear p0 p1 p2 p3 p4 p5 p6 lp
      go_upto_region 8 with (fail)
      refine wp_named fun w9 hq => ?_
      obtain ⟨bD, eb⟩ : ∃ b, b = w8.heap.size := ⟨_, rfl⟩
      have RD := Lib.hid (show Row w9 bD 24 [.int .i64 (boV x).acc, .slice o6 N6 c6, .int .i64 (boV x).cl] from by rw [hq, eb]; exact Row.new w8 _ _)
      have hB : Below w8.heap.size w8 w9 := by rw [hq]; (repeat' first | exact Below.refl _ _ | assumption | (refine below_drewN ?_ _) | (refine Below.drew ?_) | (refine Below.alloc ?_ ?_ _) | (refine Below.setCell ?_ ?_ _) | (simp; done) | (simp; omega) | omega)
      replace RP := Lib.hid (RP.out.next hB)
      replace BW := Lib.hid (BW.out.next hB)
      replace TW := Lib.hid (TW.out.next hB)
      replace RB := Lib.hid (RB.out.next hB)
      replace B5 := Lib.hid (B5.out.next hB)
      replace RC := Lib.hid (RC.out.next hB)
      replace B6 := Lib.hid (B6.out.next hB)
      replace BB := Lib.hid (Below.andThen BB.out hB)
      replace BL0 := Lib.hid (Below.andThen BL0.out hB)
      rw [← eb]
      clear hq hB eb
      obtain ⟨G, hG⟩ : ∃ G, vd acc l cl = G := ⟨_, rfl⟩
      have CV := Lib.hid (fun W (h : BkW W o N c l) => Valid_u acc cl o N c l W h)
      have CR := Lib.hid (fun W (h : BkW W o N c l) => rValid_any acc cl o N c l W h.1 h.2.2.2.2)
      rw [hG] at CV CR
      clear hG
      have hN5 : N5 ≤ 2 ^ 40 := by have := B5.out.1; have := HLX.out; omega
      have CS := Lib.hid (fun W (h1 : BkW W o5 N5 c5 (boV x).l) (h2 : BkW W o6 N6 c6 (boV x).l) => same_is h1 h2 hN5)
      have a0 := RB.out.cell 0
      have a1 := RB.out.cell 1
      have a2 := RB.out.cell 2
      have la := RB.out.lt
      simp only [List.getElem?_cons_zero, List.getElem?_cons_succ] at a0 a1 a2
      have d0 := RC.out.cell 0
      have d1 := RC.out.cell 1
      have d2 := RC.out.cell 2
      have ld := RC.out.lt
      simp only [List.getElem?_cons_zero, List.getElem?_cons_succ] at d0 d1 d2
      have g0 := RD.out.cell 0
      have g1 := RD.out.cell 1
      have g2 := RD.out.cell 2
      have lg := RD.out.lt
      simp only [List.getElem?_cons_zero, List.getElem?_cons_succ] at g0 g1 g2
      have SB := Lib.hid (show Since wl w9 from BL0.out)
      refine wp_region_kin (by kernel_rfl) (by kernel_rfl) w9.heap.size 0 (by simp) (fun hk => ?_)
      repeat (go_big_quiet_step ((first | (go_at_call 11; with_reducible exact Calls.kin (CV.out _ (BW.out.next (Kin.below _)))) | (go_at_call 12; with_reducible exact Calls.kin (CR.out _ (BW.out.next (Kin.below _)))) | (go_at_call 13; with_reducible exact Calls.kin (CS.out _ (B5.out.next (Kin.below _)) (B6.out.next (Kin.below _)))))))
      refine wpQuiet_nil ?_
      clear hk
      intro w10 hb
      replace RP := Lib.hid (RP.out.next hb)
      replace BW := Lib.hid (BW.out.next hb)
      replace TW := Lib.hid (TW.out.next hb)
      replace RB := Lib.hid (RB.out.next hb)
      replace SB := Lib.hid (SB.out.next hb)
      replace BB := Lib.hid (Below.andThen BB.out hb)
      clear hb
      clear a0 a1 a2 la
      clear d0 d1 d2 ld
      clear g0 g1 g2 lg
      replace BL0 := Lib.hid (show Below wl.heap.size wl w10 from SB.out)
      clear SB CV CR CS B5 B6 RC RD HLX
      have P1 := Lib.hid (fun W => pick_any ii ((N : Int) + 1) W hii (by omega) (by omega))
      obtain ⟨pk, hpk⟩ : ∃ v, pickZ ii ((N : Int) + 1) = v := ⟨_, rfl⟩
      rw [hpk] at P1
      clear hpk
      have a0 := RB.out.cell 0
      have a1 := RB.out.cell 1
      have a2 := RB.out.cell 2
      have la := RB.out.lt
      simp only [List.getElem?_cons_zero, List.getElem?_cons_succ] at a0 a1 a2
      go_wp2_with (go_at_call 14; first | (with_reducible refine Calls.mono (P1.out _) ?_; rintro e w' ⟨rfl, rfl⟩))
      clear a0 a1 a2 la
      refine wp_named fun wk2 hq => ?_
      obtain ⟨bI2, eI⟩ : ∃ b, b = w10.heap.size := ⟨_, rfl⟩
      have RI2 := Lib.hid (show Row wk2 bI2 3 ((([ii, pk]) : List Int).map (Value.int .i64)) from by rw [hq, eI]; first | exact Row.new w10 _ _ | exact (Row.new w10 _ _).drew)
      have hB : Below w10.heap.size w10 wk2 := by rw [hq]; (repeat' first | exact Below.refl _ _ | assumption | (refine below_drewN ?_ _) | (refine Below.drew ?_) | (refine Below.alloc ?_ ?_ _) | (refine Below.setCell ?_ ?_ _) | (simp; done) | (simp; omega) | omega)
      replace RP := Lib.hid (RP.out.next hB)
      replace BW := Lib.hid (BW.out.next hB)
      replace TW := Lib.hid (TW.out.next hB)
      replace RB := Lib.hid (RB.out.next hB)
      replace BB := Lib.hid (Below.andThen BB.out hB)
      replace BL0 := Lib.hid (Below.andThen BL0.out hB)
      rw [← eI]
      clear hq hB eI
      go_loopw [115] (fun jv wx2 => ∃ t : Nat, jv = .int .i64 t ∧ t ≤ 2 ∧ Below wk2.heap.size wk2 wx2) (fun jv _ => 2 - (intOf jv).toNat)
      case atStart => exact ⟨0, rfl, Nat.zero_le _, Below.refl _ _⟩
      case round =>
        obtain ⟨t, rfl, ht, hx⟩ := hrel
        rename World => wx2
        replace RP := Lib.hid (RP.out.next hx)
        replace BW := Lib.hid (BW.out.next hx)
        replace TW := Lib.hid (TW.out.next hx)
        replace RB := Lib.hid (RB.out.next hx)
        replace BB := Lib.hid (Below.andThen BB.out hx)
        replace BL0 := Lib.hid (Below.andThen BL0.out hx)
        replace RI2 := Lib.hid (RI2.out.next hx)
        have BL := Lib.hid hx
        clear hx
        by_cases htl : t < 2
        · obtain ⟨v, hvm, lI, hcell⟩ := few_at RI2.out (t := t) (by simpa using htl)
          have t0 : (0 : Int) ≤ t := by omega
          have t1 : (t : Int) < 2 := by omega
          clear hvm
          as_aux_lemma =>
            clear BL0 TW
            obtain ⟨y, hy⟩ : ∃ y, dispB acc l cl v day amount = y := ⟨_, rfl⟩
            have C1 := Lib.hid (fun W (h : BkW W o N c l) => Dispute_u acc cl v day amount o N c l W (by omega) hday h)
            have C2 := Lib.hid (fun W (h : BkW W o N c l) => rDispute_u acc cl v day amount o N c l W (by omega) hday h)
            rw [hy] at C1 C2
            have hlen : (boV y).l.length ≤ N + 2 := by rw [← hy]; exact dispB_len HL.out
            clear hy
            have a0 := RB.out.cell 0
            have a1 := RB.out.cell 1
            have a2 := RB.out.cell 2
            have la := RB.out.lt
            simp only [List.getElem?_cons_zero, List.getElem?_cons_succ] at a0 a1 a2
            go_upto_region 13 with (fail)
            clear hcell lI
            go_wp2_with fail
            with_reducible refine Calls.mono (C1.out _ BW.out) ?_
            rintro e wa ⟨⟨o5, N5, c5, rfl, hw, -⟩, hb⟩
            replace BW := Lib.hid (BW.out.next hb)
            replace RB := Lib.hid (RB.out.next hb)
            replace BB := Lib.hid (Below.andThen BB.out hb)
            replace BL := Lib.hid (Below.andThen BL.out hb)
            have B5 := Lib.hid hw
            clear hw C1
            clear hb
            clear a0 a1 a2 la
            go_upto_region 14 with (fail)
            refine wp_named fun wb hq => ?_
            obtain ⟨bC, eb⟩ : ∃ b, b = wa.heap.size := ⟨_, rfl⟩
            have RC := Lib.hid (show Row wb bC 24 [.int .i64 (boV y).acc, .slice o5 N5 c5, .int .i64 (boV y).cl] from by rw [hq, eb]; exact Row.new wa _ _)
            have hB : Below wa.heap.size wa wb := by rw [hq]; (repeat' first | exact Below.refl _ _ | assumption | (refine below_drewN ?_ _) | (refine Below.drew ?_) | (refine Below.alloc ?_ ?_ _) | (refine Below.setCell ?_ ?_ _) | (simp; done) | (simp; omega) | omega)
            replace BW := Lib.hid (BW.out.next hB)
            replace RB := Lib.hid (RB.out.next hB)
            replace B5 := Lib.hid (B5.out.next hB)
            replace BB := Lib.hid (Below.andThen BB.out hB)
            replace BL := Lib.hid (Below.andThen BL.out hB)
            rw [← eb]
            clear hq hB eb
            have a0 := RB.out.cell 0
            have a1 := RB.out.cell 1
            have a2 := RB.out.cell 2
            have la := RB.out.lt
            simp only [List.getElem?_cons_zero, List.getElem?_cons_succ] at a0 a1 a2
            go_wp2_with fail
            with_reducible refine Calls.mono (C2.out _ BW.out) ?_
            rintro e wc ⟨⟨o6, N6, c6, rfl, hw, -⟩, hb⟩
            replace RB := Lib.hid (RB.out.next hb)
            replace B5 := Lib.hid (B5.out.next hb)
            replace RC := Lib.hid (RC.out.next hb)
            replace BB := Lib.hid (Below.andThen BB.out hb)
            replace BL := Lib.hid (Below.andThen BL.out hb)
            have B6 := Lib.hid hw
            clear hw C2
            clear hb
            clear a0 a1 a2 la
            go_upto_region 15 with (fail)
            refine wp_named fun wd hq => ?_
            obtain ⟨bD, eb⟩ : ∃ b, b = wc.heap.size := ⟨_, rfl⟩
            have RD := Lib.hid (show Row wd bD 24 [.int .i64 (boV y).acc, .slice o6 N6 c6, .int .i64 (boV y).cl] from by rw [hq, eb]; exact Row.new wc _ _)
            have hB : Below wc.heap.size wc wd := by rw [hq]; (repeat' first | exact Below.refl _ _ | assumption | (refine below_drewN ?_ _) | (refine Below.drew ?_) | (refine Below.alloc ?_ ?_ _) | (refine Below.setCell ?_ ?_ _) | (simp; done) | (simp; omega) | omega)
            replace B5 := Lib.hid (B5.out.next hB)
            replace RC := Lib.hid (RC.out.next hB)
            replace B6 := Lib.hid (B6.out.next hB)
            replace BB := Lib.hid (Below.andThen BB.out hB)
            replace BL := Lib.hid (Below.andThen BL.out hB)
            rw [← eb]
            clear hq hB eb
            have hN5 : N5 ≤ 2 ^ 40 := by have := B5.out.1; omega
            have d0 := RC.out.cell 0
            have d1 := RC.out.cell 1
            have d2 := RC.out.cell 2
            have ld := RC.out.lt
            simp only [List.getElem?_cons_zero, List.getElem?_cons_succ] at d0 d1 d2
            have g0 := RD.out.cell 0
            have g1 := RD.out.cell 1
            have g2 := RD.out.cell 2
            have lg := RD.out.lt
            simp only [List.getElem?_cons_zero, List.getElem?_cons_succ] at g0 g1 g2
            go_wp2_with fail
            with_reducible refine Calls.mono (same_is B5.out B6.out hN5) ?_
            rintro e we ⟨rfl, hb⟩
            replace BB := Lib.hid (Below.andThen BB.out hb)
            replace BL := Lib.hid (Below.andThen BL.out hb)
            clear hb
            clear d0 d1 d2 ld
            clear g0 g1 g2 lg
            go_wp2_with fail
            go_roundw
            case rel => exact ⟨t + 1, by go_num, by omega, BL.out⟩
            case measure => first | (simp [intOf]; done) | (simp [intOf]; omega)
        · obtain rfl : t = 2 := by omega
          clear BL RI2
          rw [show ((2 : Nat) : Int) = 2 from rfl]
          have P2 := Lib.hid (fun W => pick_any month 12 W hmo (by decide) (by decide))
          obtain ⟨pk2, hpk⟩ : ∃ v, pickZ month 12 = v := ⟨_, rfl⟩
          rw [hpk] at P2
          clear hpk
          have a2 := RB.out.cell 2
          have la := RB.out.lt
          simp only [List.getElem?_cons_zero, List.getElem?_cons_succ] at a2
          go_upto_region 18 with (fail)
          (go_region_held3 (fun w' => w'.cell? ⟨bB, 2, none⟩ = some (.int .i64 cl)) (first | assumption | go_keep) ((go_at_call 14; first | (with_reducible refine Calls.mono (P2.out _) ?_; rintro e w' ⟨rfl, rfl⟩))))
          go_wp2_with fail
          clear a2 la
          refine wp_named fun wk3 hq => ?_
          obtain ⟨bI3, eI⟩ : ∃ b, b = wx2.heap.size := ⟨_, rfl⟩
          have RI3 := Lib.hid (show Row wk3 bI3 3 ((([month, pk2, cl]) : List Int).map (Value.int .i64)) from by rw [hq, eI]; first | exact Row.new wx2 _ _ | exact (Row.new wx2 _ _).drew)
          have hB : Below wx2.heap.size wx2 wk3 := by rw [hq]; (repeat' first | exact Below.refl _ _ | assumption | (refine below_drewN ?_ _) | (refine Below.drew ?_) | (refine Below.alloc ?_ ?_ _) | (refine Below.setCell ?_ ?_ _) | (simp; done) | (simp; omega) | omega)
          replace RP := Lib.hid (RP.out.next hB)
          replace BW := Lib.hid (BW.out.next hB)
          replace TW := Lib.hid (TW.out.next hB)
          replace RB := Lib.hid (RB.out.next hB)
          replace BB := Lib.hid (Below.andThen BB.out hB)
          replace BL0 := Lib.hid (Below.andThen BL0.out hB)
          rw [← eI]
          clear hq hB eI
          go_loopw [152] (fun jv wx3 => ∃ t : Nat, jv = .int .i64 t ∧ t ≤ 3 ∧ Below wk3.heap.size wk3 wx3) (fun jv _ => 3 - (intOf jv).toNat)
          case atStart => exact ⟨0, rfl, Nat.zero_le _, Below.refl _ _⟩
          case round =>
            obtain ⟨t, rfl, ht, hx⟩ := hrel
            rename World => wx3
            replace RP := Lib.hid (RP.out.next hx)
            replace BW := Lib.hid (BW.out.next hx)
            replace TW := Lib.hid (TW.out.next hx)
            replace RB := Lib.hid (RB.out.next hx)
            replace BB := Lib.hid (Below.andThen BB.out hx)
            replace BL0 := Lib.hid (Below.andThen BL0.out hx)
            replace RI3 := Lib.hid (RI3.out.next hx)
            have BL := Lib.hid hx
            clear hx
            by_cases htl : t < 3
            · obtain ⟨v, hvm, lI, hcell⟩ := few_at RI3.out (t := t) (by simpa using htl)
              have t0 : (0 : Int) ≤ t := by omega
              have t1 : (t : Int) < 3 := by omega
              clear hvm
              as_aux_lemma =>
                clear BL0 TW
                obtain ⟨y, hy⟩ : ∃ y, closeB acc l cl v = y := ⟨_, rfl⟩
                have C1 := Lib.hid (fun W (h : BkW W o N c l) => Close_u acc cl v o N c l W (by omega) h)
                have C2 := Lib.hid (fun W (h : BkW W o N c l) => rClose_u acc cl v o N c l W (by omega) h)
                rw [hy] at C1 C2
                have hlen : (boV y).l.length ≤ N := by rw [← hy]; exact closeB_len HL.out
                clear hy
                have C3 := Lib.hid (fun W (h : BkW W o N c l) => Statement_u_w acc cl v o N c l W HD.out h)
                have C4 := Lib.hid (fun W (h : BkW W o N c l) => rStatement_u_w acc cl v o N c l W HD.out h)
                have hst := stB_len acc l cl v
                generalize stB acc l cl v = st at *
                have C5 := Lib.hid (fun W (h : BkW W o N c l) => Balance_w acc cl ii v o N c l W HD.out h)
                have C6 := Lib.hid (fun W (h : BkW W o N c l) => rBalance_w acc cl ii v o N c l W h)
                generalize balV acc l cl ii v = bv at *
                generalize balE acc l cl ii v = be at *
                generalize erS st = es at *
                have a0 := RB.out.cell 0
                have a1 := RB.out.cell 1
                have a2 := RB.out.cell 2
                have la := RB.out.lt
                simp only [List.getElem?_cons_zero, List.getElem?_cons_succ] at a0 a1 a2
                go_upto_region 21 with (fail)
                clear hcell lI
                go_wp2_with fail
                with_reducible refine Calls.mono (C1.out _ BW.out) ?_
                rintro e wa ⟨⟨o5, N5, c5, rfl, hw, -⟩, hb⟩
                replace BW := Lib.hid (BW.out.next hb)
                replace RB := Lib.hid (RB.out.next hb)
                replace BB := Lib.hid (Below.andThen BB.out hb)
                replace BL := Lib.hid (Below.andThen BL.out hb)
                have B5 := Lib.hid hw
                clear hw C1
                clear hb
                clear a0 a1 a2 la
                go_upto_region 22 with (fail)
                refine wp_named fun wb hq => ?_
                obtain ⟨bC, eb⟩ : ∃ b, b = wa.heap.size := ⟨_, rfl⟩
                have RC := Lib.hid (show Row wb bC 24 [.int .i64 (boV y).acc, .slice o5 N5 c5, .int .i64 (boV y).cl] from by rw [hq, eb]; exact Row.new wa _ _)
                have hB : Below wa.heap.size wa wb := by rw [hq]; (repeat' first | exact Below.refl _ _ | assumption | (refine below_drewN ?_ _) | (refine Below.drew ?_) | (refine Below.alloc ?_ ?_ _) | (refine Below.setCell ?_ ?_ _) | (simp; done) | (simp; omega) | omega)
                replace BW := Lib.hid (BW.out.next hB)
                replace RB := Lib.hid (RB.out.next hB)
                replace B5 := Lib.hid (B5.out.next hB)
                replace BB := Lib.hid (Below.andThen BB.out hB)
                replace BL := Lib.hid (Below.andThen BL.out hB)
                rw [← eb]
                clear hq hB eb
                have a0 := RB.out.cell 0
                have a1 := RB.out.cell 1
                have a2 := RB.out.cell 2
                have la := RB.out.lt
                simp only [List.getElem?_cons_zero, List.getElem?_cons_succ] at a0 a1 a2
                go_wp2_with fail
                with_reducible refine Calls.mono (C2.out _ BW.out) ?_
                rintro e wc ⟨⟨o6, N6, c6, rfl, hw, -⟩, hb⟩
                replace BW := Lib.hid (BW.out.next hb)
                replace RB := Lib.hid (RB.out.next hb)
                replace B5 := Lib.hid (B5.out.next hb)
                replace RC := Lib.hid (RC.out.next hb)
                replace BB := Lib.hid (Below.andThen BB.out hb)
                replace BL := Lib.hid (Below.andThen BL.out hb)
                have B6 := Lib.hid hw
                clear hw C2
                clear hb
                clear a0 a1 a2 la
                go_upto_region 23 with (fail)
                refine wp_named fun wd hq => ?_
                obtain ⟨bD, eb⟩ : ∃ b, b = wc.heap.size := ⟨_, rfl⟩
                have RD := Lib.hid (show Row wd bD 24 [.int .i64 (boV y).acc, .slice o6 N6 c6, .int .i64 (boV y).cl] from by rw [hq, eb]; exact Row.new wc _ _)
                have hB : Below wc.heap.size wc wd := by rw [hq]; (repeat' first | exact Below.refl _ _ | assumption | (refine below_drewN ?_ _) | (refine Below.drew ?_) | (refine Below.alloc ?_ ?_ _) | (refine Below.setCell ?_ ?_ _) | (simp; done) | (simp; omega) | omega)
                replace BW := Lib.hid (BW.out.next hB)
                replace RB := Lib.hid (RB.out.next hB)
                replace B5 := Lib.hid (B5.out.next hB)
                replace RC := Lib.hid (RC.out.next hB)
                replace B6 := Lib.hid (B6.out.next hB)
                replace BB := Lib.hid (Below.andThen BB.out hB)
                replace BL := Lib.hid (Below.andThen BL.out hB)
                rw [← eb]
                clear hq hB eb
                have a0 := RB.out.cell 0
                have a1 := RB.out.cell 1
                have a2 := RB.out.cell 2
                have la := RB.out.lt
                simp only [List.getElem?_cons_zero, List.getElem?_cons_succ] at a0 a1 a2
                go_wp2_with fail
                with_reducible refine Calls.mono (C3.out _ BW.out) ?_
                rintro e w31 ⟨⟨o7, N7, c7, rfl, hw⟩, hb⟩
                replace BW := Lib.hid (BW.out.next hb)
                replace RB := Lib.hid (RB.out.next hb)
                replace B5 := Lib.hid (B5.out.next hb)
                replace RC := Lib.hid (RC.out.next hb)
                replace B6 := Lib.hid (B6.out.next hb)
                replace RD := Lib.hid (RD.out.next hb)
                replace BB := Lib.hid (Below.andThen BB.out hb)
                replace BL := Lib.hid (Below.andThen BL.out hb)
                have S1 := Lib.hid hw
                clear hw C3
                clear hb
                clear a0 a1 a2 la
                have a0 := RB.out.cell 0
                have a1 := RB.out.cell 1
                have a2 := RB.out.cell 2
                have la := RB.out.lt
                simp only [List.getElem?_cons_zero, List.getElem?_cons_succ] at a0 a1 a2
                go_wp2_with fail
                with_reducible refine Calls.mono (C4.out _ BW.out) ?_
                rintro e w32 ⟨⟨o8, N8, c8, rfl, hw⟩, hb⟩
                replace BW := Lib.hid (BW.out.next hb)
                replace RB := Lib.hid (RB.out.next hb)
                replace B5 := Lib.hid (B5.out.next hb)
                replace RC := Lib.hid (RC.out.next hb)
                replace B6 := Lib.hid (B6.out.next hb)
                replace RD := Lib.hid (RD.out.next hb)
                replace S1 := Lib.hid (S1.out.next hb)
                replace BB := Lib.hid (Below.andThen BB.out hb)
                replace BL := Lib.hid (Below.andThen BL.out hb)
                have S2 := Lib.hid hw
                clear hw C4
                clear hb
                clear a0 a1 a2 la
                have a0 := RB.out.cell 0
                have a1 := RB.out.cell 1
                have a2 := RB.out.cell 2
                have la := RB.out.lt
                simp only [List.getElem?_cons_zero, List.getElem?_cons_succ] at a0 a1 a2
                go_wp2_with fail
                with_reducible refine Calls.mono (C5.out _ BW.out) ?_
                rintro e w33 ⟨rfl, hb⟩
                replace BW := Lib.hid (BW.out.next hb)
                replace RB := Lib.hid (RB.out.next hb)
                replace B5 := Lib.hid (B5.out.next hb)
                replace RC := Lib.hid (RC.out.next hb)
                replace B6 := Lib.hid (B6.out.next hb)
                replace RD := Lib.hid (RD.out.next hb)
                replace S1 := Lib.hid (S1.out.next hb)
                replace S2 := Lib.hid (S2.out.next hb)
                replace BB := Lib.hid (Below.andThen BB.out hb)
                replace BL := Lib.hid (Below.andThen BL.out hb)
                clear C5
                clear hb
                clear a0 a1 a2 la
                have a0 := RB.out.cell 0
                have a1 := RB.out.cell 1
                have a2 := RB.out.cell 2
                have la := RB.out.lt
                simp only [List.getElem?_cons_zero, List.getElem?_cons_succ] at a0 a1 a2
                go_wp2_with fail
                with_reducible refine Calls.mono (C6.out _ BW.out) ?_
                rintro e w34 ⟨rfl, hb⟩
                replace B5 := Lib.hid (B5.out.next hb)
                replace RC := Lib.hid (RC.out.next hb)
                replace B6 := Lib.hid (B6.out.next hb)
                replace RD := Lib.hid (RD.out.next hb)
                replace S1 := Lib.hid (S1.out.next hb)
                replace S2 := Lib.hid (S2.out.next hb)
                replace BB := Lib.hid (Below.andThen BB.out hb)
                replace BL := Lib.hid (Below.andThen BL.out hb)
                clear C6
                clear hb
                clear a0 a1 a2 la
                have hN5 : N5 ≤ 2 ^ 40 := by have := B5.out.1; omega
                have d0 := RC.out.cell 0
                have d1 := RC.out.cell 1
                have d2 := RC.out.cell 2
                have ld := RC.out.lt
                simp only [List.getElem?_cons_zero, List.getElem?_cons_succ] at d0 d1 d2
                have g0 := RD.out.cell 0
                have g1 := RD.out.cell 1
                have g2 := RD.out.cell 2
                have lg := RD.out.lt
                simp only [List.getElem?_cons_zero, List.getElem?_cons_succ] at g0 g1 g2
                go_wp2_with fail
                with_reducible refine Calls.mono (same_is B5.out B6.out hN5) ?_
                rintro e w35 ⟨rfl, hb⟩
                replace S1 := Lib.hid (S1.out.next hb)
                replace S2 := Lib.hid (S2.out.next hb)
                replace BB := Lib.hid (Below.andThen BB.out hb)
                replace BL := Lib.hid (Below.andThen BL.out hb)
                clear hb
                clear d0 d1 d2 ld
                clear g0 g1 g2 lg
                go_wp2_with fail
                with_reducible refine Calls.mono (inw_same S1.out S2.out hst) ?_
                rintro e w36 ⟨rfl, hb⟩
                replace BB := Lib.hid (Below.andThen BB.out hb)
                replace BL := Lib.hid (Below.andThen BL.out hb)
                clear hb
                go_wp2_with fail
                go_roundw
                case rel => exact ⟨t + 1, by go_num, by omega, BL.out⟩
                case measure => first | (simp [intOf]; done) | (simp [intOf]; omega)
            · obtain rfl : t = 3 := by omega
              clear BL RI3
              rw [show ((3 : Nat) : Int) = 3 from rfl]
              have P3 := Lib.hid (fun W => pick_any sub 6 W h5 (by decide) (by decide))
              obtain ⟨pk3, hpk⟩ : ∃ v, pickZ sub 6 = v := ⟨_, rfl⟩
              rw [hpk] at P3
              clear hpk
              have p5 := RP.out.cell 5
              have lp := RP.out.lt
              simp only [List.getElem?_cons_zero, List.getElem?_cons_succ] at p5
              go_upto_region 30 with (fail)
              (go_region_held3 (fun w' => w'.cell? ⟨b11, 5, none⟩ = some (.int .i64 sub)) (first | assumption | go_keep) ((go_at_call 14; first | (with_reducible refine Calls.mono (P3.out _) ?_; rintro e w' ⟨rfl, rfl⟩))))
              go_wp2_with fail
              clear p5 lp
              refine wp_named fun wk4 hq => ?_
              obtain ⟨bI4, eI⟩ : ∃ b, b = wx3.heap.size := ⟨_, rfl⟩
              have RI4 := Lib.hid (show Row wk4 bI4 3 ((([sub, pk3]) : List Int).map (Value.int .i64)) from by rw [hq, eI]; first | exact Row.new wx3 _ _ | exact (Row.new wx3 _ _).drew)
              have hB : Below wx3.heap.size wx3 wk4 := by rw [hq]; (repeat' first | exact Below.refl _ _ | assumption | (refine below_drewN ?_ _) | (refine Below.drew ?_) | (refine Below.alloc ?_ ?_ _) | (refine Below.setCell ?_ ?_ _) | (simp; done) | (simp; omega) | omega)
              replace RP := Lib.hid (RP.out.next hB)
              replace BW := Lib.hid (BW.out.next hB)
              replace TW := Lib.hid (TW.out.next hB)
              replace RB := Lib.hid (RB.out.next hB)
              replace BB := Lib.hid (Below.andThen BB.out hB)
              replace BL0 := Lib.hid (Below.andThen BL0.out hB)
              rw [← eI]
              clear hq hB eI
              go_loopw [232] (fun jv wx4 => ∃ t : Nat, jv = .int .i64 t ∧ t ≤ 2 ∧ Below wk4.heap.size wk4 wx4) (fun jv _ => 2 - (intOf jv).toNat)
              case atStart => exact ⟨0, rfl, Nat.zero_le _, Below.refl _ _⟩
              case round =>
                obtain ⟨t, rfl, ht, hx⟩ := hrel
                rename World => wx4
                replace RP := Lib.hid (RP.out.next hx)
                replace BW := Lib.hid (BW.out.next hx)
                replace TW := Lib.hid (TW.out.next hx)
                replace RB := Lib.hid (RB.out.next hx)
                replace BB := Lib.hid (Below.andThen BB.out hx)
                replace BL0 := Lib.hid (Below.andThen BL0.out hx)
                replace RI4 := Lib.hid (RI4.out.next hx)
                have BL := Lib.hid hx
                clear hx
                by_cases htl : t < 2
                · obtain ⟨v, hvm, lI, hcell⟩ := few_at RI4.out (t := t) (by simpa using htl)
                  have t0 : (0 : Int) ≤ t := by omega
                  have t1 : (t : Int) < 2 := by omega
                  clear hvm
                  as_aux_lemma =>
                    clear BL0 TW
                    have C3 := Lib.hid (fun W (h : BkW W o N c l) => Owed_u_w acc cl v o N c l W HD.out h)
                    have C4 := Lib.hid (fun W (h : BkW W o N c l) => rOwed_u_w acc cl v o N c l W HD.out h)
                    have hst := owB_len acc l cl v
                    generalize owB acc l cl v = st at *
                    generalize erS st = es at *
                    have a0 := RB.out.cell 0
                    have a1 := RB.out.cell 1
                    have a2 := RB.out.cell 2
                    have la := RB.out.lt
                    simp only [List.getElem?_cons_zero, List.getElem?_cons_succ] at a0 a1 a2
                    go_upto_region 33 with (fail)
                    clear hcell lI
                    go_wp2_with fail
                    with_reducible refine Calls.mono (C3.out _ BW.out) ?_
                    rintro e wa ⟨⟨o7, N7, c7, rfl, hw⟩, hb⟩
                    replace BW := Lib.hid (BW.out.next hb)
                    replace RB := Lib.hid (RB.out.next hb)
                    replace BB := Lib.hid (Below.andThen BB.out hb)
                    replace BL := Lib.hid (Below.andThen BL.out hb)
                    have S1 := Lib.hid hw
                    clear hw C3
                    clear hb
                    clear a0 a1 a2 la
                    have a0 := RB.out.cell 0
                    have a1 := RB.out.cell 1
                    have a2 := RB.out.cell 2
                    have la := RB.out.lt
                    simp only [List.getElem?_cons_zero, List.getElem?_cons_succ] at a0 a1 a2
                    go_wp2_with fail
                    with_reducible refine Calls.mono (C4.out _ BW.out) ?_
                    rintro e wb ⟨⟨o8, N8, c8, rfl, hw⟩, hb⟩
                    replace S1 := Lib.hid (S1.out.next hb)
                    replace BB := Lib.hid (Below.andThen BB.out hb)
                    replace BL := Lib.hid (Below.andThen BL.out hb)
                    have S2 := Lib.hid hw
                    clear hw C4
                    clear hb
                    clear a0 a1 a2 la
                    go_wp2_with fail
                    with_reducible refine Calls.mono (inw_same S1.out S2.out hst) ?_
                    rintro e wc ⟨rfl, hb⟩
                    replace BB := Lib.hid (Below.andThen BB.out hb)
                    replace BL := Lib.hid (Below.andThen BL.out hb)
                    clear hb
                    go_wp2_with fail
                    go_roundw
                    case rel => exact ⟨t + 1, by go_num, by omega, BL.out⟩
                    case measure => first | (simp [intOf]; done) | (simp [intOf]; omega)
                · obtain rfl : t = 2 := by omega
                  clear BL RI4
                  rw [show ((2 : Nat) : Int) = 2 from rfl]
                  go_wp2_with fail
                  go_roundw
                  case rel => exact ⟨j + 1, by go_num, by omega, BL0.out⟩
                  case measure => first | (simp [intOf]; done) | (simp [intOf]; omega)
    · obtain rfl : j = 2 := by omega
      go_wp2_with fail
      go_ret
      exact ⟨rfl, BB.out⟩
end Bk
end Go.Proofs.Ytnhlhoijajhcjaa
