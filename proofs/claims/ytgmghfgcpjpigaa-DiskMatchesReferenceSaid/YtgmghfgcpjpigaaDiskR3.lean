/- The reference's disk is made, written to, synced, read and cut off. -/
import Derived.Test.YtgmghfgcpjpigaaDiskR2
namespace Go.Proofs.Ytgmghfgcpjpigaa
open Go.RowKit

set_option maxHeartbeats 1000000 in
theorem refNew_any (n : Nat) (w : World) (h0 : 1 ≤ n) (hn : n ≤ 4194304) :
    Calls Try.prog 18 #[.int .i64 n] w fun e w' => ∃ R F, e = .returned (.tuple #[at_ R, .int .i64 0]) ∧ Below w.heap.size w w' ∧ RefD w' F R n (DS.fresh n) ∧ ∀ k, F k → w.heap.size ≤ k := by
  obtain ⟨i0, hi, hz0, hz1, hz2⟩ := info_parts infoByte
  have hmk := fun (W : World) => run_make_row (P := Try.prog) W 40 5 i0 _ 1 Try.underlying40 hi hz0 hz1 hz2 rfl n (by omega) (by omega)
  have key : ∀ w', w' = ((w.alloc (.cells (Array.replicate n (.int .u8 0)) 5)).alloc (.cells #[.slice (some ⟨w.heap.size, 0, none⟩) n n, .slice none 0 0, .bool false, .int .i64 0] 43)) →
      Below w.heap.size w w' ∧ RefD w' (FootR (w.heap.size + 1) w.heap.size (.slice none 0 0)) (w.heap.size + 1) n (DS.fresh n) ∧ ∀ k, FootR (w.heap.size + 1) w.heap.size (.slice none 0 0) k → w.heap.size ≤ k := by
    rintro w' rfl
    have R1 := Row.newA w 5 n (.int .u8 0)
    have R3 := Row.new (w.alloc (.cells (Array.replicate n (.int .u8 0)) 5)) 43 [.slice (some ⟨w.heap.size, 0, none⟩) n n, .slice none 0 0, .bool false, .int .i64 0]
    rw [World.size_alloc] at R3
    have e : (List.replicate n (0 : UInt8)).map byteV = List.replicate n (.int .u8 0) := by rw [List.map_replicate]; rfl
    rw [← e] at R1
    refine ⟨by (repeat' first | exact Below.refl _ _ | assumption | (refine below_drewN ?_ _) | (refine Below.drew ?_) | (refine Below.alloc ?_ ?_ _) | (refine Below.setCell ?_ ?_ _) | (simp; done) | (simp; omega) | omega), ⟨w.heap.size, n, .slice none 0 0, ⟨R3, ?_, World.ownsRow_nil _ _ _ _, DS.fresh_good n, h0, hn⟩, rfl⟩, ?_⟩
    · refine ⟨by simp [DS.fresh], .inr ⟨w.heap.size, n, _, rfl, Nat.zero_le _, R1.alloc _, Nat.le_refl _, by unfold maxLen; omega, by simp, ?_⟩⟩
      rw [Nat.mul_one]
      exact List.take_of_length_le (by simp)
    · rintro k (rfl | rfl | hk)
      · omega
      · omega
      · cases hk
  go_enter Try.func18, Try.ntmps18
  go_wp2
  go_ret2
  obtain ⟨k1, k2, k3⟩ := key _ rfl
  exact ⟨_, _, rfl, k1, k2, k3⟩

theorem ref_write_mem {w : World} {R G sc n : Nat} {lv : Value} {s : DS} (h : RefAt w R G sc lv n s) (o : Obj) (a : Nat) (x : ByteArray) (v' : Value) (w2 : World)
    (hown : w2.ownsRow 0 71 2 v' (s.pend.length + 1) (pendC s.pend ++ [.int .i64 a, .string x])) (hgrow : (w.alloc o).grownBy w2 lv.ownBlock) (hat : v'.ownBlock = lv.ownBlock ∨ v'.ownBlock = some (w.alloc o).heap.size) :
    Row w2 R 43 [.slice (some ⟨G, 0, none⟩) n sc, lv, .bool s.off, .int .i64 s.after] ∧
    (∀ wf, Only (fun j => j = R) w2 wf → Only (FootR R G lv) w wf ∧ wf.ownsRow 0 5 1 (.slice (some ⟨G, 0, none⟩) n sc) n (s.sure.map byteV) ∧ wf.ownsRow 0 71 2 v' (s.pend ++ [(a, x)]).length (pendC (s.pend ++ [(a, x)]))) ∧
    (v'.ownBlock = lv.ownBlock ∨ v'.ownBlock = none ∨ ∃ k, v'.ownBlock = some k ∧ w.heap.size ≤ k) := by
  have O1 : Only (fun j => lv.ownBlock = some j) w w2 := ((Only.refl _ w).alloc o).grown hgrow (fun k hk => .inl hk)
  have hne := h.ne
  have RD := O1.row h.head hne.2.1
  refine ⟨RD, fun wf hO => ⟨(O1.mono (fun j hj => .inr (.inr hj))).trans hO (fun j hj => .inl (.inl hj)), ?_, ?_⟩, hat.imp id (fun e => .inr ⟨_, e, by simp⟩)⟩
  · exact ownsRow_same (ownsRow_same h.sure (fun g hg => O1.block g (h.sure.lt g hg).2 (fun e => by cases hg; exact hne.2.2 e))) (fun g hg => hO.block g (Nat.lt_of_lt_of_le (h.sure.lt g hg).2 O1.size) (fun e => by cases hg; exact hne.1 e))
  · have eP : pendC (s.pend ++ [(a, x)]) = pendC s.pend ++ [.int .i64 a, .string x] := by rw [pendC_append]; rfl
    have eL : (s.pend ++ [(a, x)]).length = s.pend.length + 1 := by simp
    rw [eP, eL]
    exact ownsRow_same hown (fun g hg => hO.block g (hown.lt g hg).2 (fun e => own_row_ne hown RD (by decide) (by rw [hg, e])))

set_option maxRecDepth 100000 in
set_option maxHeartbeats 2000000 in
theorem refWrite_any (R n : Nat) (F : Nat → Prop) (s : DS) (a : Int) (x : ByteArray) (w : World) (h : RefD w F R n s) (ha : -9223372036854775808 ≤ a ∧ a ≤ 9223372036854775807) (hx : x.size ≤ maxLen) (hp : s.pend.length ≤ 1000) :
    Calls Try.prog 30 #[at_ R, .int .i64 a, .string x] w fun e w' => e = .returned (.int .i64 (s.writeE a x)) ∧ RStep w w' F R n (s.writeS a x) := by
  have HD := Lib.hid h
  have HG := Lib.hid (DS.writeS_good h.good a x)
  obtain ⟨G, sc, lv, h, rfl⟩ := h
  obtain ⟨h0, h1, h2, h3, hf⟩ := row4 h.head
  unfold maxLen at hx
  have hs := h.good.sure
  obtain ⟨n1, n2⟩ := h.room
  cases ho : s.off
  · rw [ho] at h2
    by_cases hw : within n a x.size = true
    · obtain ⟨q0, q1, q2, q3⟩ := (within_iff _ _ _).1 hw
      obtain ⟨a, rfl⟩ := Int.eq_ofNat_of_zero_le q0
      have e1 : s.writeE a x = 0 := by simp [DS.writeE, ho, hs, hw]
      have e2 : s.writeS a x = DS.spend { s with pend := s.pend ++ [(a, x)], vis := over s.vis a x.data.toList } := by simp [DS.writeS, DS.writeOk, ho, hs, hw]
      rw [e2] at HG
      rw [e1, e2]
      obtain ⟨p1, p2, p3⟩ := spend_keeps { s with pend := s.pend ++ [(a, x)], vis := over s.vis a x.data.toList }
      have PK := Lib.hid (And.intro p1 (And.intro p2 p3))
      obtain ⟨i0, hi, hz0, hz1, hz2⟩ := info_parts infoChange
      have hown := h.pend
      have hpa := h.good.after
      have M := Lib.hid (fun o => ref_write_mem h o a x)
      have H := Lib.hid h
      have ho' := Lib.hid ho
      have g1 : ¬ (a : Int) < 0 := by omega
      have g2 : ¬ (n : Int) < (a : Int) := by omega
      have g3 : ¬ (n : Int) - (a : Int) < (x.size : Int) := by omega
      rcases show s.after = 0 ∨ s.after = 1 ∨ ¬ s.after = 0 ∧ ¬ s.after = 1 by omega with k0 | k0 | ⟨k0, k1⟩
      · have ES := Lib.hid (show DS.spend { s with pend := s.pend ++ [(a, x)], vis := over s.vis a x.data.toList } = { s with pend := s.pend ++ [(a, x)], vis := over s.vis a x.data.toList } by simp [DS.spend, k0])
        have K0 := Lib.hid k0
        clear e1 e2 h hw hs p1 p2 p3 ho k0
        go_enter Try.func30, Try.ntmps30
        go_wp2_with (at_builtin; refine wpList_append_own_at _ rfl _ _ 41 rfl 0 71 i0 _ 2 24 Try.underlying41 hi hz0 hz1 hz2 rfl (by decide) lv s.pend.length (pendC s.pend) rfl (hown.alloc _) ⟨w.heap.size, 0, none⟩ 1 1 [.int .i64 a, .string x] rfl rfl (cells2_new _ _ _ _) (by simp [Value.oneCell']) (by unfold maxLen; omega) (by omega) (Nat.zero_le _) ?_; intro v' w2 hown' hgrow _ hat; obtain ⟨g', cap', rfl⟩ := ownsRow_succ hown'; have RD := (M.out _ _ w2 hown' hgrow hat).1; have RDH := Lib.hid RD; have MM := Lib.hid (M.out _ _ w2 hown' hgrow hat).2; rw [K0.out] at RD; obtain ⟨_, f1, f2, f3, ff⟩ := row4 RD; clear RD hgrow hat hown')
        go_ret
        have hO : Only (fun j => j = R) w2 (w2.setCell ⟨R, 1, none⟩ (.slice (some ⟨g', 0, none⟩) (s.pend.length + 1) cap')) := by
          refine Only.setCell (Only.refl _ _) ?_ _
          exact .inl rfl
        obtain ⟨k1, k2, k3⟩ := MM.out.1 _ hO
        rw [ES.out] at HG ⊢
        exact ⟨rfl, ref_done H.out k1 (.inl rfl) MM.out.2 ⟨RDH.out.set 1 _, k2, k3, HG.out, n1, n2⟩⟩
      · have ES := Lib.hid (show DS.spend { s with pend := s.pend ++ [(a, x)], vis := over s.vis a x.data.toList } = { s with pend := s.pend ++ [(a, x)], vis := over s.vis a x.data.toList, off := true, after := 0 } by simp [DS.spend, k0])
        have K0 := Lib.hid k0
        clear e1 e2 h hw hs p1 p2 p3 ho k0
        go_enter Try.func30, Try.ntmps30
        go_wp2_with (at_builtin; refine wpList_append_own_at _ rfl _ _ 41 rfl 0 71 i0 _ 2 24 Try.underlying41 hi hz0 hz1 hz2 rfl (by decide) lv s.pend.length (pendC s.pend) rfl (hown.alloc _) ⟨w.heap.size, 0, none⟩ 1 1 [.int .i64 a, .string x] rfl rfl (cells2_new _ _ _ _) (by simp [Value.oneCell']) (by unfold maxLen; omega) (by omega) (Nat.zero_le _) ?_; intro v' w2 hown' hgrow _ hat; obtain ⟨g', cap', rfl⟩ := ownsRow_succ hown'; have RD := (M.out _ _ w2 hown' hgrow hat).1; have RDH := Lib.hid RD; have MM := Lib.hid (M.out _ _ w2 hown' hgrow hat).2; rw [K0.out] at RD; obtain ⟨_, f1, f2, f3, ff⟩ := row4 RD; clear RD hgrow hat hown')
        go_ret
        have hO : Only (fun j => j = R) w2 (((w2.setCell ⟨R, 1, none⟩ (.slice (some ⟨g', 0, none⟩) (s.pend.length + 1) cap')).setCell ⟨R, 3, none⟩ (.int .i64 0)).setCell ⟨R, 2, none⟩ (.bool true)) := by
          refine Only.setCell (Only.setCell (Only.setCell (Only.refl _ _) ?_ _) ?_ _) ?_ _ <;> exact .inl rfl
        obtain ⟨k1, k2, k3⟩ := MM.out.1 _ hO
        rw [ES.out] at HG ⊢
        exact ⟨rfl, ref_done H.out k1 (.inl rfl) MM.out.2 ⟨((RDH.out.set 1 _).set 3 _).set 2 _, k2, k3, HG.out, n1, n2⟩⟩
      · have ES := Lib.hid (show DS.spend { s with pend := s.pend ++ [(a, x)], vis := over s.vis a x.data.toList } = { s with pend := s.pend ++ [(a, x)], vis := over s.vis a x.data.toList, after := s.after - 1 } by simp [DS.spend, k0, k1])
        have kp : (0 : Int) < (s.after : Int) := by omega
        have kn : ((s.after - 1 : Nat) : Int) = (s.after : Int) - 1 := by omega
        have KN := Lib.hid kn
        have kz : ¬ (s.after : Int) - 1 = 0 := by omega
        clear e1 e2 h hw hs p1 p2 p3 ho k0 k1 kn
        go_enter Try.func30, Try.ntmps30
        go_wp2_with (at_builtin; refine wpList_append_own_at _ rfl _ _ 41 rfl 0 71 i0 _ 2 24 Try.underlying41 hi hz0 hz1 hz2 rfl (by decide) lv s.pend.length (pendC s.pend) rfl (hown.alloc _) ⟨w.heap.size, 0, none⟩ 1 1 [.int .i64 a, .string x] rfl rfl (cells2_new _ _ _ _) (by simp [Value.oneCell']) (by unfold maxLen; omega) (by omega) (Nat.zero_le _) ?_; intro v' w2 hown' hgrow _ hat; obtain ⟨g', cap', rfl⟩ := ownsRow_succ hown'; have RD := (M.out _ _ w2 hown' hgrow hat).1; have RDH := Lib.hid RD; have MM := Lib.hid (M.out _ _ w2 hown' hgrow hat).2; obtain ⟨_, f1, f2, f3, ff⟩ := row4 RD; clear RD hgrow hat hown')
        go_ret
        have hO : Only (fun j => j = R) w2 ((w2.setCell ⟨R, 1, none⟩ (.slice (some ⟨g', 0, none⟩) (s.pend.length + 1) cap')).setCell ⟨R, 3, none⟩ (.int .i64 ((s.after : Int) - 1))) := by
          refine Only.setCell (Only.setCell (Only.refl _ _) ?_ _) ?_ _ <;> exact .inl rfl
        obtain ⟨k1, k2, k3⟩ := MM.out.1 _ hO
        rw [ES.out] at HG ⊢
        refine ⟨rfl, ref_done H.out k1 (.inl rfl) MM.out.2 ⟨?_, k2, k3, HG.out, n1, n2⟩⟩
        have := (RDH.out.set 1 (.slice (some ⟨g', 0, none⟩) (s.pend.length + 1) cap')).set 3 (.int .i64 ((s.after - 1 : Nat) : Int))
        rw [KN.out] at this
        show Row _ _ _ [_, _, _, .int .i64 ((s.after - 1 : Nat) : Int)]
        rw [KN.out]
        exact this
    · have hw' : within n a x.size = false := by simpa using hw
      have e1 : s.writeE a x = 330 := by simp [DS.writeE, ho, hs, hw']
      have e2 : s.writeS a x = s := by simp [DS.writeS, DS.writeOk, ho, hs, hw']
      have key : a < 0 ∨ (¬ a < 0 ∧ (n : Int) < a) ∨ (¬ a < 0 ∧ ¬ (n : Int) < a ∧ (n : Int) - a < x.size) := by
        rw [within_iff] at hw
        omega
      rw [e1, e2]
      clear e1 e2 h ho h1 h3 hf HG hw hw' hs
      rcases key with k0 | ⟨k0, k1⟩ | ⟨k0, k1, k2⟩
      all_goals
        go_enter Try.func30, Try.ntmps30
        go_wp2
        go_ret
        exact ⟨rfl, RStep.same HD.out⟩
  · rw [ho] at h2
    have e1 : s.writeE a x = 331 := by simp [DS.writeE, ho]
    have e2 : s.writeS a x = s := by simp [DS.writeS, DS.writeOk, ho]
    rw [e1, e2]
    clear e1 e2 h ho h0 h1 h3 hf HG
    go_enter Try.func30, Try.ntmps30
    go_wp2
    go_ret
    exact ⟨rfl, RStep.same HD.out⟩
end Go.Proofs.Ytgmghfgcpjpigaa
