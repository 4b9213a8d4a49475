/- A disk forgets its pending writes; it is synced, written to, and cut off. -/
import Derived.Test.YtgmghfgcpjpigaaDiskB
namespace Go.Proofs.Ytgmghfgcpjpigaa
open Go.RowKit

theorem zeroWrite (w : World) : (zeroValue 69).run Try.prog w = .ok (.agg #[.int .i64 0, .string ⟨#[]⟩]) w := by
  obtain ⟨i0, hi, hz0, hz1, hz2⟩ := info_parts infoWrite
  simp [zeroValue, typeInfo, hi, hz0]
theorem run_clear_none {P : Program} (w : World) (t e ty : TypeId) (ht : P.underlying t = some (.slice e)) (o : Option Addr) (c : Nat) : (Builtin.clear_ #[t] ty #[.slice o 0 c]).run P w = .ok (.tuple #[]) w := by
  cases o <;> simp [Builtin.clear_, run_underlying ht]
theorem run_clear_row {P : Program} (w : World) (t e ty : TypeId) (z : Value) (ht : P.underlying t = some (.slice e)) (hv : ∀ w, (zeroValue e).run P w = .ok z w) (h1 : ∀ v ∈ z.cells.toList, v.oneCell' = true) (hp : 0 < z.cells.size) (g n c : Nat) (hn : 0 < n)
    (cur : Array Value) (T : TypeId) (hg : w.heap[g]? = some (.cells cur T (0, 0))) (hfit : n * z.cells.size ≤ cur.size) :
    (Builtin.clear_ #[t] ty #[.slice (some ⟨g, 0, none⟩) n c]).run P w = .ok (.tuple #[]) (w.setRow g ((Builtin.zeroCells z.cells n).toList ++ cur.toList.drop (n * z.cells.size)).toArray) := by
  have hl : (Builtin.zeroCells z.cells n).toList.length = n * z.cells.size := by rw [Array.length_toList, size_zeroCells]
  have hst := run_storeCells_at P g 0 T (Builtin.zeroCells z.cells n).toList 0 cur w hg (by rw [hl]; simpa using hfit) (by
    intro v hv
    rw [Array.mem_toList_iff, Builtin.zeroCells, Array.mem_map] at hv
    obtain ⟨i, _, rfl⟩ := hv
    refine h1 _ ?_
    have : i % z.cells.size < z.cells.size := Nat.mod_lt _ hp
    rw [getElem!_pos z.cells _ this]
    exact Array.getElem_mem_toList this)
  rw [hl] at hst
  simp only [Nat.add_zero, Nat.zero_add, List.take_zero, List.nil_append] at hst
  obtain ⟨m, rfl⟩ : ∃ m, n = m + 1 := ⟨n - 1, by omega⟩
  simp [Builtin.clear_, run_underlying ht, hv, hst]

set_option maxHeartbeats 1000000 in
theorem forget_any (D k : Nat) (c0 c1 c2 c3 pv : Value) (xs : List Value) (w : World) (h : Row w D 65 [c0, c1, c2, c3, pv]) (ho : w.ownsRow 0 69 2 pv k xs) :
    Calls Try.prog 36 #[at_ D] w fun e w' => e = .returned (.tuple #[]) ∧ ∃ pv', pv'.ownBlock = pv.ownBlock ∧ Only (fun j => j = D ∨ pv.ownBlock = some j) w w' ∧
      Row w' D 65 [c0, c1, c2, c3, pv'] ∧ w'.ownsRow 0 69 2 pv' 0 [] := by
  obtain ⟨h0, h1, h2, h3, h4, hf⟩ := row5 h
  rcases ho.2 with ⟨rfl, rfl⟩ | ⟨g, cap, cur, rfl, _, hg, hkc, hcm, hcs, _⟩
  · have hcl := fun ty => run_clear_none (P := Try.prog) w 63 69 ty Try.underlying63 none 0
    have H := Lib.hid h
    clear h h0 h1 h2 h3 ho
    go_enter Try.func36, Try.ntmps36
    go_wp2
    go_end0
    refine ⟨rfl, _, rfl, Only.setCell (Only.refl _ _) ?_ _, H.out.set 4 _, World.ownsRow_nil _ _ _ _⟩
    exact .inl (.inl rfl)
  · have hgD : g ≠ D := by
      rintro rfl
      have := h.symm.trans hg
      simp at this
    by_cases hk : k = 0
    · subst hk
      have hcl := fun ty => run_clear_none (P := Try.prog) w 63 69 ty Try.underlying63 (some ⟨g, 0, none⟩) cap
      have H := Lib.hid h
      have HG := Lib.hid hg
      clear h h0 h1 h2 h3 ho hg
      go_enter Try.func36, Try.ntmps36
      go_wp2
      go_end0
      refine ⟨rfl, _, rfl, Only.setCell (Only.refl _ _) ?_ _, H.out.set 4 _, by simp, .inr ⟨g, cap, cur, rfl, Nat.zero_le _, (Below.heap_setCell _ _ _ _ hgD).trans HG.out, Nat.zero_le _, hcm, hcs, by simp⟩⟩
      exact .inl (.inl rfl)
    · obtain ⟨C2, hC, hS⟩ : ∃ C2 : List Value, C2.length = cap * 2 ∧ ∀ ty, (Builtin.clear_ #[63] ty #[.slice (some ⟨g, 0, none⟩) k cap]).run Try.prog w = .ok (.tuple #[]) (w.setRow g C2.toArray) :=
        ⟨_, by simp [size_zeroCells, hcs, Value.cells]; omega, fun ty => run_clear_row (P := Try.prog) w 63 69 ty _ Try.underlying63 zeroWrite (by simp [Value.cells, Value.oneCell']) (by simp [Value.cells]) g k cap (by omega) cur _ hg (by rw [hcs]; exact Nat.mul_le_mul_right _ hkc)⟩
      obtain ⟨W2, hW⟩ : ∃ W2, W2 = w.setRow g C2.toArray := ⟨_, rfl⟩
      have R2 := Lib.hid (show Row W2 D 65 _ by rw [hW]; exact h.beside hgD.symm _)
      have G2 := Lib.hid (show W2.heap[g]? = some (.cells C2.toArray 69 (0, 0)) by rw [hW]; exact setRow_heap w g _ _ _ _ hg)
      have O2 := Lib.hid (show Only (fun j => j = D ∨ some g = some j) w W2 by rw [hW]; exact (Only.refl _ _).setRow (.inl (.inr rfl)) _)
      rw [← hW] at hS
      have f4 := R2.out.cell 4
      simp only [List.getElem?_cons_succ, List.getElem?_cons_zero] at f4
      have ff := R2.out.frozen
      clear h h0 h1 h2 h3 ho hg hW
      go_enter Try.func36, Try.ntmps36
      go_wp2
      go_end0
      refine ⟨rfl, .slice (some ⟨g, 0, none⟩) 0 cap, rfl, Only.setCell O2.out ?_ _, R2.out.set 4 _, by simp, .inr ⟨g, cap, _, rfl, Nat.zero_le _, (Below.heap_setCell _ _ _ _ hgD).trans G2.out, Nat.zero_le _, hcm, by simpa using hC, by simp⟩⟩
      exact .inl (.inl rfl)

theorem DStep.same {w : World} {F : Nat → Prop} {D n : Nat} {s : DS} (h : Disk w F D n s) : DStep w w F D n s := ⟨Only.refl _ _, F, h, fun _ hk => .inl hk⟩
theorem run_copy_cells2 {P : Program} {w : World} {g1 g2 n c1 c2 : Nat} {l1 l2 : List UInt8} (h1 : Row w g1 5 (l1.map byteV)) (h2 : Row w g2 5 (l2.map byteV)) (e1 : l1.length = n) (e2 : l2.length = n) (dT sT ty : TypeId)
    (hu : P.underlying dT = some (.slice 5)) (hs : (P.info? 5).map (·.size) = some 1) :
    (Builtin.copy_ #[dT, sT] ty #[.slice (some ⟨g1, 0, none⟩) n c1, .slice (some ⟨g2, 0, none⟩) n c2]).run P w = .ok (goInt n) (w.setRow g1 (l2.map byteV).toArray) := by
  have hl : (l2.map byteV).length = n := by simpa using e2
  have := run_copy_row (P := P) w dT sT ty 5 g1 0 n c1 ⟨g2, 0, none⟩ n c2 _ 5 (l2.map byteV) hu hs h1 (by rw [hl]; simp) (fun j v hj => by
    have e : Addr.add ⟨g2, 0, none⟩ j = ⟨g2, j, none⟩ := by unfold Addr.add; split <;> simp_all
    rw [e, h2.cell]; exact hj) (by rw [hl]; simp [e1]) (fun v hv => by obtain ⟨x, _, rfl⟩ := List.mem_map.1 hv; rfl)
  rw [hl] at this
  have e3 : List.drop n (List.map byteV l1) = [] := List.drop_eq_nil_of_le (by simp [e1])
  simpa [e3] using this

theorem disk_done {w w' : World} {D G1 G2 n : Nat} {pv pv' : Value} {s s' : DS} (h : DiskAt w D G1 G2 pv n s) (O : Only (Foot D G1 G2 pv) w w') (ho : pv'.ownBlock = pv.ownBlock ∨ ∃ k, pv'.ownBlock = some k ∧ w.heap.size ≤ k)
    (hR : Row w' D 65 [.bool s'.off, .int .i64 s'.after, .slice (some ⟨G1, 0, none⟩) n n, .slice (some ⟨G2, 0, none⟩) n n, pv']) (h1 : Row w' G1 5 (s'.sure.map byteV)) (h2 : Row w' G2 5 (s'.vis.map byteV))
    (hP : w'.ownsRow 0 69 2 pv' s'.pend.length (pendC s'.pend)) (hg : s'.Good n) : DStep w w' (Foot D G1 G2 pv) D n s' := by
  refine ⟨O, Foot D G1 G2 pv', ⟨G1, G2, pv', ⟨hR, h1, h2, h.apart, hP, hg, h.room⟩, rfl⟩, ?_⟩
  rintro k (rfl | rfl | rfl | hk)
  · exact .inl (.inl rfl)
  · exact .inl (.inr (.inl rfl))
  · exact .inl (.inr (.inr (.inl rfl)))
  · rcases ho with e | ⟨j, e, hj⟩
    · exact .inl (.inr (.inr (.inr (e ▸ hk))))
    · rw [e] at hk
      cases hk
      exact .inr hj
theorem only_setRow {w : World} (g : Nat) (C : Array Value) : Only (fun k => k = g) w (w.setRow g C) := by
  refine (Only.refl _ w).setRow ?_ C
  exact .inl rfl

set_option maxHeartbeats 1000000 in
theorem sync_any (D n : Nat) (F : Nat → Prop) (s : DS) (w : World) (h : Disk w F D n s) :
    Calls Try.prog 23 #[at_ D] w fun e w' => e = .returned (.int .i64 s.powE) ∧ DStep w w' F D n s.syncS := by
  have HD := Lib.hid h
  obtain ⟨G1, G2, pv, h, rfl⟩ := h
  obtain ⟨h0, h1, h2, h3, h4, hf⟩ := row5 h.head
  have CR := Lib.hid (ready_any D s.off w h0)
  cases ho : s.off
  · rw [ho] at CR
    have e1 : s.powE = 0 := by simp [DS.powE, ho]
    have e2 : s.syncS = { s with sure := s.vis, pend := [] } := by simp [DS.syncS, ho]
    rw [e1, e2]
    have hcp := fun ty => run_copy_cells2 (P := Try.prog) (w := w.drew) (c1 := n) (c2 := n) h.sure h.vis h.good.sure h.good.vis 40 40 ty rfl sizeByte
    obtain ⟨W2, hW⟩ : ∃ W2, W2 = w.drew.setRow G1 (s.vis.map byteV).toArray := ⟨_, rfl⟩
    rw [← hW] at hcp
    have O2 : Only (fun k => k = G1) w W2 := by rw [hW]; exact (Only.refl _ w).drew.trans (only_setRow (w := w.drew) G1 _) (fun _ h => .inl h)
    have hne := h.ne
    have hpn := h.pend_ne
    have R1 := O2.row h.head hne.1
    have R2 : Row W2 G1 5 (s.vis.map byteV) := by rw [hW]; exact Row.setRow (w := w.drew) h.sure _
    have R3 := O2.row h.vis (fun e => hne.2.2 e.symm)
    have R4 := ownsRow_same h.pend (w' := W2) (fun g hg => O2.block g (h.lt g (.inr (.inr (.inr hg)))) (fun e => hpn.2.1 (by rw [hg, e])))
    have CF := Lib.hid (forget_any D _ _ _ _ _ pv _ W2 R1 R4)
    have H := Lib.hid h
    have K := Lib.hid (And.intro O2 (And.intro R2 R3))
    have E2 := Lib.hid e2
    clear e1 e2 h ho h0 h1 h4 hf HD hW O2 R1 R2 R3 R4
    go_enter Try.func23, Try.ntmps23
    go_wp2_with fail
    refine CR.out.mono ?_
    rintro e w1 ⟨rfl, rfl⟩
    go_wp2_with fail
    go_region
    go_wp2_with fail
    refine CF.out.mono ?_
    rintro e w3 ⟨rfl, pv', ho, hO, hR, hP⟩
    go_wp2
    go_ret
    obtain ⟨O2, R2, R3⟩ := K.out
    have h := H.out
    have n1 : ¬ (G1 = D ∨ pv.ownBlock = some G1) := fun e => e.elim (fun e => h.ne.1 e.symm) h.pend_ne.2.1
    have n2 : ¬ (G2 = D ∨ pv.ownBlock = some G2) := fun e => e.elim (fun e => h.ne.2.1 e.symm) h.pend_ne.2.2
    have hg := DS.syncS_good h.good
    rw [E2.out] at hg
    refine ⟨rfl, disk_done h ((O2.mono (fun j hj => .inr (.inl hj))).trans hO (fun j hj => .inl (hj.elim .inl (fun e => .inr (.inr (.inr e)))))) (.inl ho) ?_ (hO.row R2 n1) (hO.row R3 n2) hP hg⟩
    exact hR
  · rw [ho] at CR
    have e1 : s.powE = 331 := by simp [DS.powE, ho]
    have e2 : s.syncS = s := by simp [DS.syncS, ho]
    rw [e1, e2]
    clear e1 e2 h ho h0 h1 h2 h3 h4 hf
    go_enter Try.func23, Try.ntmps23
    go_wp2_with fail
    refine CR.out.mono ?_
    rintro e w1 ⟨rfl, rfl⟩
    go_wp2
    go_ret
    exact ⟨rfl, DStep.same HD.out⟩

set_option maxHeartbeats 1000000 in
theorem cutd_any (D n : Nat) (F : Nat → Prop) (s : DS) (k : Int) (w : World) (h : Disk w F D n s) (hk : k ≤ 9223372036854775807) :
    Calls Try.prog 24 #[at_ D, .int .i64 k] w fun e w' => e = .returned (.int .i64 (s.cutE k)) ∧ DStep w w' F D n (s.cutS k) := by
  have HD := Lib.hid h
  have HG := Lib.hid (DS.cutS_good h.good.1 k hk)
  obtain ⟨G1, G2, pv, h, rfl⟩ := h
  obtain ⟨h0, h1, h2, h3, h4, hf⟩ := row5 h.head
  have CR := Lib.hid (ready_any D s.off w h0)
  have H := Lib.hid h
  cases ho : s.off
  · rw [ho] at CR
    rcases show k < 0 ∨ k = 0 ∨ 0 < k by omega with k0 | rfl | k0
    · have e1 : s.cutE k = 2 := by simp [DS.cutE, ho, k0]
      have e2 : s.cutS k = s := by simp [DS.cutS, ho, k0]
      rw [e1, e2]
      clear e1 e2 h ho h2 h3 h4 hf
      go_enter Try.func24, Try.ntmps24
      go_wp2_with fail
      refine CR.out.mono ?_
      rintro e w1 ⟨rfl, rfl⟩
      go_wp2
      go_ret
      exact ⟨rfl, DStep.same HD.out⟩
    · have e1 : s.cutE 0 = 0 := by simp [DS.cutE, ho]
      have e2 : s.cutS 0 = { s with off := true, after := 0 } := by simp [DS.cutS, ho]
      rw [e2] at HG
      rw [e1, e2]
      have CL := Lib.hid (lose_any D _ _ _ _ _ w h.head)
      clear e1 e2 h ho h2 h3 h4 hf
      go_enter Try.func24, Try.ntmps24
      go_wp2_with fail
      refine CR.out.mono ?_
      rintro e w1 ⟨rfl, rfl⟩
      go_wp2_with fail
      refine CL.out.mono ?_
      rintro e w2 ⟨rfl, hO, hR⟩
      go_wp2
      go_ret
      have h := H.out
      exact ⟨rfl, disk_done h (hO.mono (fun j hj => .inl hj)) (.inl rfl) hR (hO.row h.sure h.ne.1.symm) (hO.row h.vis h.ne.2.1.symm) (ownsRow_same h.pend (fun g hg => hO.block g (h.lt g (.inr (.inr (.inr hg)))) (fun e => h.pend_ne.1 (by rw [hg, e])))) HG.out⟩
    · have g1 : ¬ k < 0 := by omega
      have g2 : ¬ k = 0 := by omega
      have e1 : s.cutE k = 0 := by simp [DS.cutE, ho, g1]
      have e2 : s.cutS k = { s with after := k.toNat } := by simp [DS.cutS, ho, g1, g2]
      rw [e2] at HG
      rw [e1, e2]
      obtain ⟨k, rfl⟩ := Int.eq_ofNat_of_zero_le (show 0 ≤ k by omega)
      clear e1 e2 h h2 h3 h4
      rw [ho] at h0
      go_enter Try.func24, Try.ntmps24
      go_wp2_with fail
      refine CR.out.mono ?_
      rintro e w1 ⟨rfl, rfl⟩
      go_wp2
      go_ret
      have h := H.out
      have hO : Only (fun j => j = D) w (w.setCell ⟨D, 1, none⟩ (.int .i64 k)) := by
        refine Only.setCell (Only.refl _ _) ?_ _
        exact .inl rfl
      exact ⟨rfl, disk_done h (hO.mono (fun j hj => .inl hj)) (.inl rfl) (h.head.set 1 _) (hO.row h.sure h.ne.1.symm) (hO.row h.vis h.ne.2.1.symm) (ownsRow_same h.pend (fun g hg => hO.block g (h.lt g (.inr (.inr (.inr hg)))) (fun e => h.pend_ne.1 (by rw [hg, e])))) HG.out⟩
  · rw [ho] at CR
    have e1 : s.cutE k = 331 := by simp [DS.cutE, ho]
    have e2 : s.cutS k = s := by simp [DS.cutS, ho]
    rw [e1, e2]
    clear e1 e2 h ho h0 h1 h2 h3 h4 hf HG
    go_enter Try.func24, Try.ntmps24
    go_wp2_with fail
    refine CR.out.mono ?_
    rintro e w1 ⟨rfl, rfl⟩
    go_wp2
    go_ret
    exact ⟨rfl, DStep.same HD.out⟩
end Go.Proofs.Ytgmghfgcpjpigaa
