/- A disk is written to. -/
import Derived.Test.YtgmghfgcpjpigaaDiskC
import Derived.RangeFuncBox
namespace Go.Proofs.Ytgmghfgcpjpigaa
open Go.RowKit

theorem spend_keeps (s : DS) : s.spend.sure = s.sure ∧ s.spend.vis = s.vis ∧ s.spend.pend = s.pend := by
  unfold DS.spend
  by_cases h0 : s.after = 0 <;> by_cases h1 : s.after = 1 <;> simp [h0, h1]
theorem cells2_new (w : World) (x y : Value) (t : TypeId) : ∀ j u, [x, y][j]? = some u → (w.alloc (.cells #[x, y] t)).cell? ((⟨w.heap.size, 0, none⟩ : Addr).add j) = some u := by
  intro j u hj
  match j, hj with
  | 0, hj =>
    simp at hj
    subst hj
    simp [Addr.add]
  | 1, hj =>
    simp at hj
    subst hj
    simp [Addr.add]

theorem write_mem {w : World} {D G1 G2 n : Nat} {pv : Value} {s : DS} (h : DiskAt w D G1 G2 pv n s) (o : Obj) (a : Nat) (x : ByteArray) (hfit : a + x.size ≤ n) (o2 : Nat) (ho2 : (a = n ∧ o2 = 0) ∨ (a ≠ n ∧ o2 = a)) (v' : Value) (w2 : World)
    (hown : w2.ownsRow 0 69 2 v' (s.pend.length + 1) (pendC s.pend ++ [.int .i64 a, .string x])) (hgrow : (w.alloc o).grownBy w2 pv.ownBlock) (hat : v'.ownBlock = pv.ownBlock ∨ v'.ownBlock = some (w.alloc o).heap.size) :
    Row w2 D 65 [.bool s.off, .int .i64 s.after, .slice (some ⟨G1, 0, none⟩) n n, .slice (some ⟨G2, 0, none⟩) n n, pv] ∧
    ∃ W4, (∀ ty, (Builtin.copy_ #[40, 9] ty #[.slice (some ⟨G2, o2, none⟩) (n - a) (n - a), .string x]).run Try.prog (w2.setCell ⟨D, 4, none⟩ v') = .ok (goInt x.size) W4) ∧
      Row W4 D 65 [.bool s.off, .int .i64 s.after, .slice (some ⟨G1, 0, none⟩) n n, .slice (some ⟨G2, 0, none⟩) n n, v'] ∧ Only (Foot D G1 G2 pv) w W4 ∧ Row W4 G1 5 (s.sure.map byteV) ∧
      Row W4 G2 5 ((over s.vis a x.data.toList).map byteV) ∧ W4.ownsRow 0 69 2 v' (s.pend ++ [(a, x)]).length (pendC (s.pend ++ [(a, x)])) ∧ (v'.ownBlock = pv.ownBlock ∨ ∃ k, v'.ownBlock = some k ∧ w.heap.size ≤ k) ∧ v'.ownBlock ≠ some D := by
  have O1 : Only (fun j => pv.ownBlock = some j) w w2 := ((Only.refl _ w).alloc o).grown hgrow (fun k hk => .inl hk)
  have hpn := h.pend_ne
  have hne := h.ne
  have RD := O1.row h.head hpn.1
  have R1 := O1.row h.sure hpn.2.1
  have R2 := O1.row h.vis hpn.2.2
  refine ⟨RD, ?_⟩
  have RD' : Row (w2.setCell ⟨D, 4, none⟩ v') D 65 [.bool s.off, .int .i64 s.after, .slice (some ⟨G1, 0, none⟩) n n, .slice (some ⟨G2, 0, none⟩) n n, v'] := RD.set 4 v'
  have R1' : Row (w2.setCell ⟨D, 4, none⟩ v') G1 5 (s.sure.map byteV) := R1.other hne.1.symm 4 v'
  have R2' : Row (w2.setCell ⟨D, 4, none⟩ v') G2 5 (s.vis.map byteV) := R2.other hne.2.1.symm 4 v'
  have hvD : ∀ (b : Nat) (t : TypeId) (C : List Value), Row w2 b t C → t ≠ 69 → v'.ownBlock ≠ some b := by
    intro b t C hR ht hb
    rcases hown.2 with ⟨rfl, _⟩ | ⟨g, cap, cur, rfl, _, h5, _⟩
    · cases hb
    · simp only [Value.ownBlock, Option.some.injEq] at hb
      subst hb
      have := hR.symm.trans h5
      simp at this
      exact ht this.2
  have dD := hvD _ _ _ RD (by decide)
  have dG := hvD _ _ _ R2 (by decide)
  have hown' : (w2.setCell ⟨D, 4, none⟩ v').ownsRow 0 69 2 v' (s.pend.length + 1) (pendC s.pend ++ [.int .i64 a, .string x]) :=
    ownsRow_same hown (fun g hg => Below.heap_setCell _ _ _ _ (fun e => dD (by rw [hg]; exact congrArg some e)))
  have O2 : Only (Foot D G1 G2 pv) w (w2.setCell ⟨D, 4, none⟩ v') := by
    refine (O1.mono (fun j hj => .inr (.inr (.inr hj)))).setCell ?_ v'
    exact .inl (.inl rfl)
  have eP : pendC (s.pend ++ [(a, x)]) = pendC s.pend ++ [.int .i64 a, .string x] := by rw [pendC_append]; rfl
  have eL : (s.pend ++ [(a, x)]).length = s.pend.length + 1 := by simp
  have hat' : v'.ownBlock = pv.ownBlock ∨ ∃ k, v'.ownBlock = some k ∧ w.heap.size ≤ k := hat.imp id (fun e => ⟨_, e, by simp⟩)
  rw [eP, eL]
  have hv := h.good.vis
  by_cases hx : x.size = 0
  · have ex : x.data.toList = [] := List.eq_nil_of_length_eq_zero (by rw [size_list]; exact hx)
    have eo : over s.vis a [] = s.vis := by simp [splice]
    refine ⟨_, fun ty => ?_, RD', O2, R1', ?_, hown', hat', dD⟩
    · rw [hx]
      exact Lib.run_copy_empty_string _ _ _ _ 5 _ _ _ x rfl (by rw [sizeByte]; rfl) hx
    · rw [ex, eo]
      exact R2'
  · have e2 : o2 = a := by omega
    subst e2
    have hlen : ((over s.vis o2 x.data.toList).map byteV) = (s.vis.map byteV).take o2 ++ Lib.byteCells x.data.toList ++ (s.vis.map byteV).drop (o2 + x.size) := by
      simp only [splice, List.map_append, List.map_take, List.map_drop, List.append_assoc, size_list]
      rfl
    have hrun := fun ty => Lib.run_copy_row_string (P := Try.prog) (w2.setCell ⟨D, 4, none⟩ v') 40 9 ty 5 G2 o2 (n - o2) (n - o2) x _ 5 rfl sizeByte R2' (by omega) (by simp [hv]; omega)
    rw [← hlen] at hrun
    refine ⟨_, hrun, RD'.beside hne.2.1 _, O2.setRow (.inl (.inr (.inr (.inl rfl)))) _, R1'.beside hne.2.2 _, Row.setRow R2' _, ownsRow_same hown' (fun g hg => setRow_other _ _ _ _ (fun e => dG (by rw [hg, e]))), hat', dD⟩

set_option maxRecDepth 100000 in
set_option maxHeartbeats 2000000 in
theorem write_any (D n : Nat) (F : Nat → Prop) (s : DS) (a : Int) (x : ByteArray) (w : World) (h : Disk w F D n s) (ha : -9223372036854775808 ≤ a ∧ a ≤ 9223372036854775807) (hx : x.size ≤ maxLen) (hp : s.pend.length ≤ 1000000) :
    Calls Try.prog 21 #[at_ D, .int .i64 a, .string x] w fun e w' => e = .returned (.int .i64 (s.writeE a x)) ∧ DStep w w' F D n (s.writeS a x) := by
  have HD := Lib.hid h
  have HG := Lib.hid (DS.writeS_good h.good.1 a x)
  obtain ⟨G1, G2, pv, h, rfl⟩ := h
  obtain ⟨h0, h1, h2, h3, h4, hf⟩ := row5 h.head
  unfold maxLen at hx
  have CR := Lib.hid (ready_any D s.off w h0)
  have CW := Lib.hid (within_any D n _ a x.size w h2 h.room ha (by omega))
  have hs := h.good.sure
  cases ho : s.off
  · rw [ho] at CR
    cases hw : within n a x.size
    · rw [hw] at CW
      have e1 : s.writeE a x = 330 := by simp [DS.writeE, ho, hs, hw]
      have e2 : s.writeS a x = s := by simp [DS.writeS, DS.writeOk, ho, hs, hw]
      rw [e1, e2]
      clear e1 e2 h ho h0 h1 h2 h3 h4 hf HG hw
      go_enter Try.func21, Try.ntmps21
      go_wp2_with fail
      refine CR.out.mono ?_
      rintro e w1 ⟨rfl, rfl⟩
      go_wp2_with fail
      refine CW.out.mono ?_
      rintro e w1 ⟨rfl, rfl⟩
      go_wp2
      go_ret
      exact ⟨rfl, DStep.same HD.out⟩
    · rw [hw] at CW
      obtain ⟨q0, q1, q2, q3⟩ := (within_iff _ _ _).1 hw
      obtain ⟨a, rfl⟩ := Int.eq_ofNat_of_zero_le q0
      have e1 : s.writeE a x = 0 := by simp [DS.writeE, ho, hs, hw]
      have e2 : s.writeS a x = DS.spend { s with pend := s.pend ++ [(a, x)], vis := over s.vis a x.data.toList } := by simp [DS.writeS, DS.writeOk, ho, hs, hw]
      rw [e2] at HG
      rw [e1, e2]
      obtain ⟨i0, hi, hz0, hz1, hz2⟩ := info_parts infoWrite
      have hown := h.pend
      have hpa := h.good.after
      by_cases hna : a = n
      · have M := Lib.hid (fun o => write_mem h o a x (by omega) 0 (.inl ⟨hna, rfl⟩))
        have H := Lib.hid h
        subst hna
        clear e1 e2 h hw h0 h1 h2 h3 hf hs
        go_enter Try.func21, Try.ntmps21
        go_wp2_with fail
        refine CR.out.mono ?_
        rintro e w1 ⟨rfl, rfl⟩
        go_wp2_with fail
        refine CW.out.mono ?_
        rintro e w1 ⟨rfl, rfl⟩
        go_wp2_with (at_builtin; refine wpList_append_own_at _ rfl _ _ 63 rfl 0 69 i0 _ 2 24 Try.underlying63 hi hz0 hz1 hz2 rfl (by decide) pv s.pend.length (pendC s.pend) rfl (hown.alloc _) ⟨w.heap.size, 0, none⟩ 1 1 [.int .i64 a, .string x] rfl rfl (cells2_new _ _ _ _) (by simp [Value.oneCell']) (by unfold maxLen; omega) (by omega) (Nat.zero_le _) ?_; intro v' w2 hown' hgrow _ hat; obtain ⟨g', cap', rfl⟩ := ownsRow_succ hown'; obtain ⟨RD, W4, hcp, R4, K⟩ := M.out (.cells #[.int .i64 a, .string x] 69) (.slice (some ⟨g', 0, none⟩) (s.pend.length + 1) cap') w2 hown' hgrow hat; (try simp only [Nat.sub_self] at hcp); obtain ⟨_, _, _, f3, f4, ff⟩ := row5 RD; have CS := Lib.hid (spend_any D { s with pend := s.pend ++ [(a, x)], vis := over s.vis a x.data.toList } _ _ _ W4 hpa R4); have HK := Lib.hid K; clear K RD R4 hgrow hat hown')
        refine CS.out.mono ?_
        rintro e w5 ⟨rfl, hO, hR⟩
        go_wp2
        go_ret
        obtain ⟨k1, k2, k3, k4, k5, k6⟩ := HK.out
        have h := H.out
        obtain ⟨p1, p2, p3⟩ := spend_keeps { s with pend := s.pend ++ [(a, x)], vis := over s.vis a x.data.toList }
        refine ⟨rfl, disk_done h (k1.trans hO (fun j hj => .inl (.inl hj))) k5 hR ?_ ?_ ?_ HG.out⟩
        · rw [p1]; exact hO.row k2 h.ne.1.symm
        · rw [p2]; exact hO.row k3 h.ne.2.1.symm
        · rw [p3]; exact ownsRow_same k4 (fun g hg => hO.block g (k4.lt g hg).2 (fun e => k6 (by rw [hg, e])))
      · have M := Lib.hid (fun o => write_mem h o a x (by omega) a (.inr ⟨hna, rfl⟩))
        have H := Lib.hid h
        have hna' : ¬ n = a := fun e => hna e.symm
        clear e1 e2 h hw h0 h1 h2 h3 hf hs
        go_enter Try.func21, Try.ntmps21
        go_wp2_with fail
        refine CR.out.mono ?_
        rintro e w1 ⟨rfl, rfl⟩
        go_wp2_with fail
        refine CW.out.mono ?_
        rintro e w1 ⟨rfl, rfl⟩
        go_wp2_with (at_builtin; refine wpList_append_own_at _ rfl _ _ 63 rfl 0 69 i0 _ 2 24 Try.underlying63 hi hz0 hz1 hz2 rfl (by decide) pv s.pend.length (pendC s.pend) rfl (hown.alloc _) ⟨w.heap.size, 0, none⟩ 1 1 [.int .i64 a, .string x] rfl rfl (cells2_new _ _ _ _) (by simp [Value.oneCell']) (by unfold maxLen; omega) (by omega) (Nat.zero_le _) ?_; intro v' w2 hown' hgrow _ hat; obtain ⟨g', cap', rfl⟩ := ownsRow_succ hown'; obtain ⟨RD, W4, hcp, R4, K⟩ := M.out (.cells #[.int .i64 a, .string x] 69) (.slice (some ⟨g', 0, none⟩) (s.pend.length + 1) cap') w2 hown' hgrow hat; obtain ⟨_, _, _, f3, f4, ff⟩ := row5 RD; have CS := Lib.hid (spend_any D { s with pend := s.pend ++ [(a, x)], vis := over s.vis a x.data.toList } _ _ _ W4 hpa R4); have HK := Lib.hid K; clear K RD R4 hgrow hat hown')
        refine CS.out.mono ?_
        rintro e w5 ⟨rfl, hO, hR⟩
        go_wp2
        go_ret
        obtain ⟨k1, k2, k3, k4, k5, k6⟩ := HK.out
        have h := H.out
        obtain ⟨p1, p2, p3⟩ := spend_keeps { s with pend := s.pend ++ [(a, x)], vis := over s.vis a x.data.toList }
        refine ⟨rfl, disk_done h (k1.trans hO (fun j hj => .inl (.inl hj))) k5 hR ?_ ?_ ?_ HG.out⟩
        · rw [p1]; exact hO.row k2 h.ne.1.symm
        · rw [p2]; exact hO.row k3 h.ne.2.1.symm
        · rw [p3]; exact ownsRow_same k4 (fun g hg => hO.block g (k4.lt g hg).2 (fun e => k6 (by rw [hg, e])))
  · rw [ho] at CR
    have e1 : s.writeE a x = 331 := by simp [DS.writeE, ho]
    have e2 : s.writeS a x = s := by simp [DS.writeS, DS.writeOk, ho]
    rw [e1, e2]
    clear e1 e2 h ho h0 h1 h2 h3 h4 hf HG
    go_enter Try.func21, Try.ntmps21
    go_wp2_with fail
    refine CR.out.mono ?_
    rintro e w1 ⟨rfl, rfl⟩
    go_wp2
    go_ret
    exact ⟨rfl, DStep.same HD.out⟩
end Go.Proofs.Ytgmghfgcpjpigaa
