/- post. -/
import Derived.Test.YtnhlhoijajhcjaaDoorBkK
set_option linter.unusedVariables false
set_option linter.unusedSimpArgs false
set_option linter.unnecessarySimpa false
namespace Go.Proofs.YtnhlhoijajhcjaaDoor
open Go.RowKit
namespace Bk
open Sq
theorem grown_at (A : World) (b o : Nat) (v : Value) : A.grownBy (A.setCell ⟨b, o, none⟩ v) (some b) :=
  ⟨rfl, rfl, rfl, by simp, fun k _ hne => Below.heap_setCell _ _ _ _ (fun e => hne (by rw [e]))⟩
def failed (acc cl : Int) (l : List Po) (p : Po) : Bool := !vd acc (l ++ [p]) cl || decide (p.day.tdiv 30 < cl)
set_option maxRecDepth 100000 in
set_option maxHeartbeats 4000000 in
theorem post_any (B0 bk : Nat) (o : Option Addr) (c : Nat) (acc cl : Int) (fl : Bool) (l : List Po) (p : Po) (w : World) (h : Led w B0 bk o c acc cl fl l) (hd : inI p.day) (hB0 : B0 ≤ w.heap.size) (hN : l.length ≤ 2 ^ 30) :
    Calls Tryd.prog 38 #[ptV bk, p.v] w fun e w' => ∃ v o' c', e = .returned v ∧ Led w' B0 bk o' c' acc cl (fl || failed acc cl l p) (l ++ [p]) ∧ Mod w w' bk (Value.slice o l.length c).ownBlock := by
  have CB := Lib.hid (fun g c' W hr => book_any bk (l.length + 1) (some ⟨g, 0, none⟩) c' acc cl fl W hr)
  have CV := Lib.hid (fun g c' W h1 h2 h => Valid_any acc cl (some ⟨g, 0, none⟩) (l.length + 1) c' (l ++ [p]) W (by rw [List.length_append]; rfl) h1 h2 h)
  have CM := Lib.hid (fun W => monthOf_any p W hd)
  obtain ⟨N, hNl⟩ : ∃ N, l.length = N := ⟨_, rfl⟩
  have HR := Lib.hid h.row
  have HO := Lib.hid h.own
  have HLe := Lib.hid h.le
  rw [hNl] at CB CV HR HO hN ⊢
  have HN := Lib.hid hNl
  have HF := Lib.hid (show failed acc cl l p = (!vd acc (l ++ [p]) cl || decide (p.day.tdiv 30 < cl)) from rfl)
  obtain ⟨F, hF⟩ : ∃ F, failed acc cl l p = F := ⟨_, rfl⟩
  rw [hF] at HF ⊢
  obtain ⟨V, hV⟩ : ∃ V, vd acc (l ++ [p]) cl = V := ⟨_, rfl⟩
  rw [hV] at HF CV
  obtain ⟨m, hm⟩ : ∃ m, p.day.tdiv 30 = m := ⟨_, rfl⟩
  rw [hm] at HF CM
  have HOA := Lib.hid (own_apart h.own h.row (by decide))
  rw [hNl] at HOA
  have HLt := Lib.hid (own_lt HO.out)
  clear hF hV hm h hNl hd
  obtain ⟨kind, day, deb, cre, amt, sub, of⟩ := p
  unfold Po.v at CM ⊢
  dsimp only at CM ⊢
  go_enter Tryd.func38, Tryd.ntmps38
  go_upto_region 1 with (fail)
  refine wp_named fun w1 hq => ?_
  obtain ⟨bP, eP⟩ : ∃ b, b = w.heap.size := ⟨_, rfl⟩
  have RP := Lib.hid (show Row w1 bP 27 [.int .i64 kind, .int .i64 day, .int .i64 deb, .int .i64 cre, .int .i64 amt, .int .i64 sub, .int .i64 of] from by rw [hq, eP]; exact Row.new w _ _)
  have HB := Lib.hid (show Below w.heap.size w w1 from by rw [hq]; (repeat' first | exact Below.refl _ _ | assumption | (refine below_drewN ?_ _) | (refine Below.drew ?_) | (refine Below.alloc ?_ ?_ _) | (refine Below.setCell ?_ ?_ _) | (simp; done) | (simp; omega) | omega))
  have RK := Lib.hid (HR.out.next HB.out)
  have OW := Lib.hid (HO.out.next HB.out)
  have HS := Lib.hid (show bP ≠ bk ∧ w.heap.size ≤ bP ∧ (Value.slice o N c).ownBlock ≠ some bP from ⟨by have := HR.out.lt; omega, by omega, fun e => by have := HLt.out _ e; omega⟩)
  rw [← eP]
  have hw1 : B0 ≤ w1.heap.size := Nat.le_trans hB0 HB.out.size
  clear hq eP HR HO
  have k0 := RK.out.cell 0
  have p0 := RP.out.cell 0
  have p1 := RP.out.cell 1
  have p2 := RP.out.cell 2
  have p3 := RP.out.cell 3
  have p4 := RP.out.cell 4
  have p5 := RP.out.cell 5
  have p6 := RP.out.cell 6
  simp only [List.getElem?_cons_zero, List.getElem?_cons_succ] at k0 p0 p1 p2 p3 p4 p5 p6
  have lk := RK.out.lt
  have lP := RP.out.lt
  go_cut [] (fun wx => ∃ g c', Row wx bk 79 [.slice (some ⟨g, 0, none⟩) (N + 1) c', .int .i64 acc, .int .i64 cl, .bool fl] ∧ Sq.Own poE 27 wx B0 (.slice (some ⟨g, 0, none⟩) (N + 1) c') (l ++ [⟨kind, day, deb, cre, amt, sub, of⟩]) ∧ N + 1 ≤ c' ∧ c' ≤ 9223372036854775807 ∧
    Row wx bP 27 [.int .i64 kind, .int .i64 day, .int .i64 deb, .int .i64 cre, .int .i64 amt, .int .i64 sub, .int .i64 of] ∧ Mod w wx bk (Value.slice o N c).ownBlock)
  case first =>
    go_region_law (refine step_append tyE rfl (.tmp 8) (.tmp 10) rfl B0 (.slice o N c) l rfl (by rw [← HN.out]; rw [← HN.out] at OW; exact OW.out.next (((Below.refl w1.heap.size w1).drew).alloc (Nat.le_refl _) _)) (some ⟨w1.heap.size, 0, none⟩) 1 1 [⟨kind, day, deb, cre, amt, sub, of⟩] rfl rfl (fun h => by cases h) (sl_new poE w1.drew _ [⟨kind, day, deb, cre, amt, sub, of⟩]) (by rw [HN.out]; omega) (by simp; omega) ?_; intro v2 w2 ho2 hg2; have HO2 := Lib.hid ho2; have HG2 := Lib.hid hg2; obtain ⟨g, c', rfl, q1, q2, q3, q4⟩ := own_is_some ho2 (k := N) (by rw [List.length_append, HN.out]; rfl); have RK2 := Lib.hid (keep_row ((RK.out.drew).alloc _) hg2 (fun r e => by intro e2; rw [e2] at e; exact HOA.out e)); have RP2 := Lib.hid (keep_row ((RP.out.drew).alloc _) hg2 (fun r e => by intro e2; rw [e2] at e; exact HS.out.2.2 e)); have kk0 := RK2.out.cell 0; simp only [List.getElem?_cons_zero] at kk0; have lk2 := RK2.out.lt; have fk2 := RK2.out.frozen 0)
    all_goals
      rename_i J K' hJ hK'
      refine hK' _ _ ?_
      refine Met.intro ?_
      refine hJ _ _ ?_
      (repeat apply Exists.intro)
      refine ⟨?_, rfl⟩
      refine ⟨g, c', RK2.out.set 0 _, ?_, q3, q4, RP2.out.other HS.out.1 _ _, ?_⟩
      · exact World.ownsRow.kept (row := some bk) HO2.out (grown_at _ _ _ _) (.inr (own_apart HO2.out RK2.out (by decide)))
      · exact ((((Mod.refl w bk _).below HB.out).below (show Below w1.heap.size w1 _ by (repeat' first | exact Below.refl _ _ | assumption | (refine below_drewN ?_ _) | (refine Below.drew ?_) | (refine Below.alloc ?_ ?_ _) | (refine Below.setCell ?_ ?_ _) | (simp; done) | (simp; omega) | omega))).grown HG2.out).set 0 _
  obtain ⟨g, c', hRK, hO, hc1, hc2, hRP, hM⟩ := hcut
  rename World => w3
  have RK3 := Lib.hid hRK
  have OW3 := Lib.hid hO
  have RP3 := Lib.hid hRP
  have MM := Lib.hid hM
  clear hRK hO hRP hM k0 p0 p1 p2 p3 p4 p5 p6 lk lP RK RP OW HB
  have SL3 := Lib.hid (show Sl poE w3 (some ⟨g, 0, none⟩) (l ++ [⟨kind, day, deb, cre, amt, sub, of⟩]) from by
    obtain ⟨o', c2, e, -, -, -, hs⟩ := OW3.out.vw
    obtain ⟨e1, -, -⟩ := Value.slice.inj e
    rw [e1]
    exact hs)
  have CB1 := Lib.hid (fun W hr => CB.out g c' W hr)
  have CV1 := Lib.hid (fun W h => CV.out g c' W hc1 hc2 h)
  have k0 := RK3.out.cell 0
  have k1 := RK3.out.cell 1
  have k2 := RK3.out.cell 2
  have k3 := RK3.out.cell 3
  have p0 := RP3.out.cell 0
  have p1 := RP3.out.cell 1
  have p2 := RP3.out.cell 2
  have p3 := RP3.out.cell 3
  have p4 := RP3.out.cell 4
  have p5 := RP3.out.cell 5
  have p6 := RP3.out.cell 6
  simp only [List.getElem?_cons_zero, List.getElem?_cons_succ] at k0 k1 k2 k3 p0 p1 p2 p3 p4 p5 p6
  have lk := RK3.out.lt
  have lP := RP3.out.lt
  go_upto_region 2 with (fail)
  cases fl with
  | true =>
    refine wp_region_kin_tail 22 (by kernel_rfl) (by kernel_rfl) w3.heap.size 0 (by simp) (fun hk => ?_)
    simp only [List.take_succ_cons, List.take_zero, List.drop_succ_cons, List.drop_zero]
    repeat (go_big_quiet_step (first | (go_at_call 68; with_reducible exact Calls.kin (CB1.out _ (RK3.out.next (Kin.below _)))) | (go_at_call 24; with_reducible exact Calls.kin (CV1.out _ (SL3.out.next (Kin.below _)))) | (go_at_call 43; with_reducible exact Calls.kin (CM.out _))))
    refine wpQuiet_nil ?_
    clear hk k0 k1 k2 k3 p0 p1 p2 p3 p4 p5 p6 lk lP
    intro W2 hb
    have RK4 := Lib.hid (RK3.out.next hb)
    have OW4 := Lib.hid (OW3.out.next hb)
    have MM4 := Lib.hid (MM.out.below hb)
    clear hb
    have k3 := RK4.out.cell 3
    simp only [List.getElem?_cons_zero, List.getElem?_cons_succ] at k3
    have lk := RK4.out.lt
    have fk := RK4.out.frozen 3
    go_wp2_with fail
    go_end0
    refine ⟨_, some ⟨g, 0, none⟩, c', rfl, ⟨?_, ?_, HLe.out⟩, MM4.out.set 3 _⟩
    · rw [List.length_append, HN.out]
      exact RK4.out.set 3 _
    · rw [List.length_append, HN.out]
      exact World.ownsRow.kept (row := some bk) OW4.out (grown_at _ _ _ _) (.inr (own_apart OW4.out RK4.out (by decide)))
  | false =>
    cases V with
    | false =>
      refine wp_region_kin_tail 22 (by kernel_rfl) (by kernel_rfl) w3.heap.size 0 (by simp) (fun hk => ?_)
      simp only [List.take_succ_cons, List.take_zero, List.drop_succ_cons, List.drop_zero]
      repeat (go_big_quiet_step (first | (go_at_call 68; with_reducible exact Calls.kin (CB1.out _ (RK3.out.next (Kin.below _)))) | (go_at_call 24; with_reducible exact Calls.kin (CV1.out _ (SL3.out.next (Kin.below _)))) | (go_at_call 43; with_reducible exact Calls.kin (CM.out _))))
      refine wpQuiet_nil ?_
      clear hk k0 k1 k2 k3 p0 p1 p2 p3 p4 p5 p6 lk lP
      intro W2 hb
      have RK4 := Lib.hid (RK3.out.next hb)
      have OW4 := Lib.hid (OW3.out.next hb)
      have MM4 := Lib.hid (MM.out.below hb)
      clear hb
      have k3 := RK4.out.cell 3
      simp only [List.getElem?_cons_zero, List.getElem?_cons_succ] at k3
      have lk := RK4.out.lt
      have fk := RK4.out.frozen 3
      go_wp2_with fail
      go_end0
      refine ⟨_, some ⟨g, 0, none⟩, c', rfl, ⟨?_, ?_, HLe.out⟩, MM4.out.set 3 _⟩
      · rw [List.length_append, HN.out]
        rw [show (false || F) = true from by rw [HF.out]; rfl]
        exact RK4.out.set 3 _
      · rw [List.length_append, HN.out]
        exact World.ownsRow.kept (row := some bk) OW4.out (grown_at _ _ _ _) (.inr (own_apart OW4.out RK4.out (by decide)))
    | true =>
      refine wp_region_kin_tail 22 (by kernel_rfl) (by kernel_rfl) w3.heap.size 0 (by simp) (fun hk => ?_)
      simp only [List.take_succ_cons, List.take_zero, List.drop_succ_cons, List.drop_zero]
      repeat (go_big_quiet_step (first | (go_at_call 68; with_reducible exact Calls.kin (CB1.out _ (RK3.out.next (Kin.below _)))) | (go_at_call 24; with_reducible exact Calls.kin (CV1.out _ (SL3.out.next (Kin.below _)))) | (go_at_call 43; with_reducible exact Calls.kin (CM.out _))))
      refine wpQuiet_nil ?_
      clear hk k0 k1 k2 k3 p0 p1 p2 p3 p4 p5 p6 lk lP
      intro W2 hb
      have RK4 := Lib.hid (RK3.out.next hb)
      have OW4 := Lib.hid (OW3.out.next hb)
      have MM4 := Lib.hid (MM.out.below hb)
      clear hb
      have k3 := RK4.out.cell 3
      simp only [List.getElem?_cons_zero, List.getElem?_cons_succ] at k3
      have lk := RK4.out.lt
      have fk := RK4.out.frozen 3
      go_wp2_with fail
      go_end0
      refine ⟨_, some ⟨g, 0, none⟩, c', rfl, ⟨?_, ?_, HLe.out⟩, MM4.out.set 3 _⟩
      · rw [List.length_append, HN.out]
        rw [show (false || F) = decide (m < cl) from by rw [HF.out]; rfl]
        exact RK4.out.set 3 _
      · rw [List.length_append, HN.out]
        exact World.ownsRow.kept (row := some bk) OW4.out (grown_at _ _ _ _) (.inr (own_apart OW4.out RK4.out (by decide)))
end Bk
end Go.Proofs.YtnhlhoijajhcjaaDoor
