/- A call on the disk and the same call on the reference. -/
import Derived.Test.YtgmghfgcpjpigaaDiskR6
import Derived.Deep.RegionHeld3
import Derived.Deep.RegionWith
namespace Go.Proofs.Ytgmghfgcpjpigaa
open Go.RowKit Go.ChangeShapes Go.WideShapes

/-- The disk and the reference's disk in one state, and a row that is none of theirs. -/
def Pair (W0 w : World) (D R n : Nat) (s : DS) (s2 : DS) : Prop := ∃ F1 F2, On W0 w F1 D n s ∧ RefD w F2 R n s2 ∧ (∀ k, F2 k → W0.heap.size ≤ k) ∧ (∀ k, F1 k → ¬ F2 k)
def PairL (W0 w : World) (D R n : Nat) (s s2 : DS) (ly : Nat) (row : List Value) : Prop := ∃ F1 F2, On W0 w F1 D n s ∧ RefD w F2 R n s2 ∧ (∀ k, F2 k → W0.heap.size ≤ k) ∧ (∀ k, F1 k → ¬ F2 k) ∧ Row w ly 39 row ∧ ¬ F1 ly ∧ ¬ F2 ly
section
variable {W0 w w' : World} {D R n ly : Nat} {s s2 s' : DS} {row : List Value}
theorem PairL.drop (h : PairL W0 w D R n s s2 ly row) : Pair W0 w D R n s s2 := by
  obtain ⟨F1, F2, o1, r2, m2, d, _⟩ := h
  exact ⟨F1, F2, o1, r2, m2, d⟩
theorem PairL.below (h : PairL W0 w D R n s s2 ly row) : Below W0.heap.size W0 w := by obtain ⟨_, _, o1, _⟩ := h; exact o1.below
theorem Pair.below (h : Pair W0 w D R n s s2) : Below W0.heap.size W0 w := by obtain ⟨_, _, o1, _⟩ := h; exact o1.below
theorem Pair.next (h : Pair W0 w D R n s s2) (hb : Below w.heap.size w w') : Pair W0 w' D R n s s2 := by
  obtain ⟨F1, F2, o1, r2, m2, d⟩ := h
  exact ⟨F1, F2, o1.next hb, r2.next hb, m2, d⟩
theorem PairL.next (h : PairL W0 w D R n s s2 ly row) (hb : Below w.heap.size w w') : PairL W0 w' D R n s s2 ly row := by
  obtain ⟨F1, F2, o1, r2, m2, d, r, n1, n2⟩ := h
  exact ⟨F1, F2, o1.next hb, r2.next hb, m2, d, r.next hb, n1, n2⟩
theorem PairL.drew (h : PairL W0 w D R n s s2 ly row) : PairL W0 w.drew D R n s s2 ly row := h.next (Below.refl _ _).drew
theorem Pair.with (h : Pair W0 w D R n s s2) (row : List Value) : PairL W0 (w.alloc (.cells row.toArray 39)) D R n s s2 w.heap.size row := by
  obtain ⟨F1, F2, o1, r2, m2, d⟩ := h
  have hb : Below w.heap.size w (w.alloc (.cells row.toArray 39)) := (Below.refl _ _).alloc (Nat.le_refl _) _
  exact ⟨F1, F2, o1.next hb, r2.next hb, m2, d, Row.new _ _ _, fun h => absurd (o1.disk.lt _ h) (Nat.lt_irrefl _), fun h => absurd (r2.lt _ h) (Nat.lt_irrefl _)⟩
theorem PairL.cells {v0 v1 v2 v3 v4 : Value} (h : PairL W0 w D R n s s2 ly [v0, v1, v2, v3, v4]) : w.cell? ⟨ly, 0, none⟩ = some v0 ∧ w.cell? ⟨ly, 1, none⟩ = some v1 ∧ w.cell? ⟨ly, 2, none⟩ = some v2 ∧ w.cell? ⟨ly, 3, none⟩ = some v3 ∧ w.cell? ⟨ly, 4, none⟩ = some v4 := by
  obtain ⟨_, _, _, _, _, _, r, _⟩ := h
  exact ⟨r.cell 0, r.cell 1, r.cell 2, r.cell 3, r.cell 4⟩
theorem PairL.step1 {f : FuncId} {args : Array Value} {v : Value} (h : PairL W0 w D R n s s2 ly row) (hc : ∀ F, Disk w F D n s → (∀ k, F k → W0.heap.size ≤ k) → Calls Try.prog f args w fun e w' => e = .returned v ∧ DStep w w' F D n s') :
    Calls Try.prog f args w fun e w' => e = .returned v ∧ PairL W0 w' D R n s' s2 ly row := by
  obtain ⟨F1, F2, o1, r2, m2, d, r, n1, n2⟩ := h
  refine (hc F1 o1.disk o1.mine).mono fun e w' ⟨he, hS⟩ => ⟨he, ?_⟩
  obtain ⟨F', O', hO, hF⟩ := On.step o1 hS
  exact ⟨F', F2, O', r2.only hO d, m2, fun k hk h2 => (hF k hk).elim (fun h1 => d k h1 h2) (fun hz => absurd (r2.lt k h2) (by omega)), hO.row r n1, still hF r.lt n1, n2⟩
theorem PairL.step2 {f : FuncId} {args : Array Value} {v : Value} {s2' : DS} (h : PairL W0 w D R n s s2 ly row) (hc : ∀ F, RefD w F R n s2 → (∀ k, F k → W0.heap.size ≤ k) → Calls Try.prog f args w fun e w' => e = .returned v ∧ RStep w w' F R n s2') :
    Calls Try.prog f args w fun e w' => e = .returned v ∧ PairL W0 w' D R n s s2' ly row := by
  obtain ⟨F1, F2, o1, r2, m2, d, r, n1, n2⟩ := h
  refine (hc F2 r2 m2).mono fun e w' ⟨he, hO, F', hD, hF⟩ => ⟨he, ?_⟩
  exact ⟨F1, F', o1.only hO (fun k h2 h1 => d k h1 h2) m2, hD, fun k hk => (hF k hk).elim (m2 k) (Nat.le_trans o1.below.size), fun k h1 hk => (hF k hk).elim (d k h1) (fun hz => absurd (o1.disk.lt k h1) (by omega)), hO.row r n2, n1, still hF r.lt n2⟩
theorem PairL.disk (h : PairL W0 w D R n s s2 ly row) : ∃ F, Disk w F D n s := by obtain ⟨F1, _, o1, _⟩ := h; exact ⟨F1, o1.disk⟩
theorem PairL.ref (h : PairL W0 w D R n s s2 ly row) : ∃ F, RefD w F R n s2 := by obtain ⟨_, F2, _, r2, _⟩ := h; exact ⟨F2, r2⟩
end
theorem writeS_len (s : DS) (a : Int) (x : ByteArray) : (s.writeS a x).pend.length ≤ s.pend.length + 1 := by
  unfold DS.writeS
  split
  · rw [(spend_keeps _).2.2]
    simp
  · omega
theorem syncS_len (s : DS) : s.syncS.pend.length ≤ s.pend.length := by
  unfold DS.syncS
  split
  · exact Nat.le_refl _
  · simp
theorem cutS_len (s : DS) (k : Int) : (s.cutS k).pend.length ≤ s.pend.length := by
  unfold DS.cutS
  repeat' split
  all_goals exact Nat.le_refl _

set_option maxRecDepth 100000 in
set_option maxHeartbeats 4000000 in
theorem step_any (D R n : Nat) (s : DS) (c a m : Int) (S : ByteArray) (ko : Option Addr) (kl kc : Nat) (K : Nat → Int) (W0 w : World) (h : Pair W0 w D R n s s) (_ : n ≤ 400) (hp : s.pend.length ≤ 500)
    (bc : -9223372036854775808 ≤ c ∧ c ≤ 9223372036854775807) (ba : -9223372036854775808 ≤ a ∧ a ≤ 9223372036854775807) (bm : -9223372036854775808 ≤ m ∧ m ≤ 9223372036854775807) (bS : S.size ≤ maxLen) (bk : kl ≤ maxLen ∧ kl ≤ kc)
    (hk : ∀ i, i < kl → ∃ b, ko = some b ∧ b.block < W0.heap.size ∧ ∀ w', Below W0.heap.size W0 w' → w'.cell? (b.add i) = some (.int .i64 (K i))) :
    Calls Try.prog 19 #[at_ D, at_ R, .agg #[.int .i64 c, .int .i64 a, .int .i64 m, .string S, .slice ko kl kc]] w fun e w' => e = .returned (.bool true) ∧ ∃ s', Pair W0 w' D R n s' s' ∧ s'.pend.length ≤ s.pend.length + 1 := by
  have HK := Lib.hid hk
  have pb := pick_bd c 6 (by omega)
  have CP := Lib.hid (fun w => pick_any c 6 w (by omega) bc.1 bc.2)
  have CC := Lib.hid (fun w => cut_any S 300 w bS (by omega))
  have T4 := Lib.hid (h.with [.int .i64 c, .int .i64 a, .int .i64 m, .string S, .slice ko kl kc])
  have hcut := cutT_size S 300
  obtain ⟨t, et⟩ : ∃ t, t = cutT S 300 := ⟨_, rfl⟩
  rw [← et] at CC hcut
  obtain ⟨bk1, bk2⟩ := bk
  unfold maxLen at bS bk1
  obtain ⟨ly, el⟩ : ∃ ly, ly = w.heap.size := ⟨_, rfl⟩
  obtain ⟨w1, ew⟩ : ∃ w1, w1 = w.alloc (.cells #[.int .i64 c, .int .i64 a, .int .i64 m, .string S, .slice ko kl kc] 39) := ⟨_, rfl⟩
  have T4 := Lib.hid (show PairL W0 w1 D R n s s ly [.int .i64 c, .int .i64 a, .int .i64 m, .string S, .slice ko kl kc] by rw [ew, el]; exact T4.out)
  clear hk et h
  obtain ⟨p, ep⟩ : ∃ p, p = pickZ c 6 := ⟨_, rfl⟩
  rw [← ep] at CP pb
  clear ep
  have hpp : p = 0 ∨ p = 1 ∨ p = 2 ∨ p = 3 ∨ p = 4 ∨ p = 5 := by omega
  clear pb
  rcases hpp with rfl | rfl | rfl | rfl | rfl | rfl
  · have X1 := Lib.hid (fun w' (hT : PairL W0 w' D R n s s ly [.int .i64 c, .int .i64 a, .int .i64 m, .string S, .slice ko kl kc]) => hT.step1 (fun F hF _ => write_any D n F s a t w' hF ba (by unfold maxLen; omega) (by omega)))
    have X2 := Lib.hid (fun w' (hT : PairL W0 w' D R n (s.writeS a t) s ly [.int .i64 c, .int .i64 a, .int .i64 m, .string S, .slice ko kl kc]) => hT.step2 (fun F hF _ => refWrite_any R n F s a t w' hF ba (by unfold maxLen; omega) (by omega)))
    go_enter Try.func19, Try.ntmps19
    go_wp2_with fail
    refine (CP.out _).mono ?_
    rintro e w2 ⟨rfl, rfl⟩
    go_wp2_with fail
    refine (CC.out _).mono ?_
    rintro e w2 ⟨rfl, rfl⟩
    go_wp2_with fail
    rw [← ew, ← el]
    obtain ⟨k0, k1, k2, k3, k4⟩ := T4.out.cells
    have hT4 := T4.out.drew
    clear T4 ew el
    first | (go_region_held3 (fun w' => w'.cell? ⟨ly, 1, none⟩ = some (.int .i64 a) ∧ w'.cell? ⟨ly, 2, none⟩ = some (.int .i64 m)) (first | exact ⟨by assumption, by assumption⟩ | go_keep) (first | (go_at_call 21; with_reducible refine Calls.mono (X1.out _ (by assumption)) ?_; rintro e wx ⟨rfl, hTx⟩; obtain ⟨m0, m1, m2, m3, m4⟩ := hTx.cells) | (go_at_call 30; with_reducible refine Calls.mono (X2.out _ (by assumption)) ?_; rintro e wx ⟨rfl, hTx⟩; obtain ⟨m0, m1, m2, m3, m4⟩ := hTx.cells))) | fail
    all_goals
      go_wp2
      go_ret
      exact ⟨by simp, _, (by assumption : PairL W0 _ D R n (s.writeS a t) (s.writeS a t) ly _).drop, writeS_len s a t⟩
  · have X1 := Lib.hid (fun w' (hT : PairL W0 w' D R n s s ly [.int .i64 c, .int .i64 a, .int .i64 m, .string S, .slice ko kl kc]) => hT.step1 (fun F hF _ => write_any D n F s a t w' hF ba (by unfold maxLen; omega) (by omega)))
    have X2 := Lib.hid (fun w' (hT : PairL W0 w' D R n (s.writeS a t) s ly [.int .i64 c, .int .i64 a, .int .i64 m, .string S, .slice ko kl kc]) => hT.step2 (fun F hF _ => refWrite_any R n F s a t w' hF ba (by unfold maxLen; omega) (by omega)))
    go_enter Try.func19, Try.ntmps19
    go_wp2_with fail
    refine (CP.out _).mono ?_
    rintro e w2 ⟨rfl, rfl⟩
    go_wp2_with fail
    refine (CC.out _).mono ?_
    rintro e w2 ⟨rfl, rfl⟩
    go_wp2_with fail
    rw [← ew, ← el]
    obtain ⟨k0, k1, k2, k3, k4⟩ := T4.out.cells
    have hT4 := T4.out.drew
    clear T4 ew el
    first | (go_region_held3 (fun w' => w'.cell? ⟨ly, 1, none⟩ = some (.int .i64 a) ∧ w'.cell? ⟨ly, 2, none⟩ = some (.int .i64 m)) (first | exact ⟨by assumption, by assumption⟩ | go_keep) (first | (go_at_call 21; with_reducible refine Calls.mono (X1.out _ (by assumption)) ?_; rintro e wx ⟨rfl, hTx⟩; obtain ⟨m0, m1, m2, m3, m4⟩ := hTx.cells) | (go_at_call 30; with_reducible refine Calls.mono (X2.out _ (by assumption)) ?_; rintro e wx ⟨rfl, hTx⟩; obtain ⟨m0, m1, m2, m3, m4⟩ := hTx.cells))) | fail
    all_goals
      go_wp2
      go_ret
      exact ⟨by simp, _, (by assumption : PairL W0 _ D R n (s.writeS a t) (s.writeS a t) ly _).drop, writeS_len s a t⟩
  · go_enter Try.func19, Try.ntmps19
    go_wp2_with fail
    refine (CP.out _).mono ?_
    rintro e w2 ⟨rfl, rfl⟩
    go_wp2_with fail
    rw [← ew, ← el]
    refine (T4.out.step1 (fun F hF _ => sync_any D n F s _ hF)).mono ?_
    rintro e w2 ⟨rfl, hT⟩
    have T5 := Lib.hid hT
    clear hT
    go_wp2_with fail
    refine (T5.out.step2 (fun F hF _ => refSync_any R n F s _ hF (by omega))).mono ?_
    rintro e w3 ⟨rfl, hT⟩
    have T6 := Lib.hid hT
    clear hT
    go_wp2
    go_ret
    refine ⟨by simp, _, T6.out.drop, ?_⟩
    have := syncS_len s
    omega
  · go_enter Try.func19, Try.ntmps19
    go_wp2_with fail
    refine (CP.out _).mono ?_
    rintro e w2 ⟨rfl, rfl⟩
    go_wp2_with fail
    rw [← ew, ← el]
    obtain ⟨F1, hF1⟩ := T4.out.disk
    obtain ⟨F2, hF2⟩ := T4.out.ref
    have hF2' := Lib.hid hF2
    have hF1' := Lib.hid hF1
    obtain ⟨k0, k1, k2, k3, k4⟩ := T4.out.cells
    clear hF1 hF2 ew el
    refine (read_any D n F1 s a m _ hF1'.out ba bm).mono ?_
    rintro e w2 ⟨rfl, rfl⟩
    go_wp2_with fail
    refine (refRead_any R n F2 s a m _ hF2'.out ba bm (by omega)).mono ?_
    rintro e w3 ⟨rfl, hb⟩
    have T5 := Lib.hid (T4.out.next hb)
    clear hb
    go_wp2
    go_ret
    exact ⟨by simp, s, T5.out.drop, by omega⟩
  · have X1 := Lib.hid (fun w' (hT : PairL W0 w' D R n s s ly [.int .i64 c, .int .i64 a, .int .i64 m, .string S, .slice ko kl kc]) => hT.step1 (fun F hF _ => cutd_any D n F s m w' hF bm.2))
    have X2 := Lib.hid (fun w' (hT : PairL W0 w' D R n (s.cutS m) s ly [.int .i64 c, .int .i64 a, .int .i64 m, .string S, .slice ko kl kc]) => hT.step2 (fun F hF _ => refCut_any R n F s m w' hF bm.2))
    go_enter Try.func19, Try.ntmps19
    go_wp2_with fail
    refine (CP.out _).mono ?_
    rintro e w2 ⟨rfl, rfl⟩
    go_wp2_with fail
    rw [← ew, ← el]
    obtain ⟨k0, k1, k2, k3, k4⟩ := T4.out.cells
    have hT4 := T4.out.drew
    clear T4 ew el
    first | (go_region_held3 (fun w' => w'.cell? ⟨ly, 1, none⟩ = some (.int .i64 a) ∧ w'.cell? ⟨ly, 2, none⟩ = some (.int .i64 m)) (first | exact ⟨by assumption, by assumption⟩ | go_keep) (first | (go_at_call 24; with_reducible refine Calls.mono (X1.out _ (by assumption)) ?_; rintro e wx ⟨rfl, hTx⟩; obtain ⟨m0, m1, m2, m3, m4⟩ := hTx.cells) | (go_at_call 32; with_reducible refine Calls.mono (X2.out _ (by assumption)) ?_; rintro e wx ⟨rfl, hTx⟩; obtain ⟨m0, m1, m2, m3, m4⟩ := hTx.cells))) | fail
    all_goals
      go_wp2
      go_ret
      refine ⟨by simp, _, (by assumption : PairL W0 _ D R n (s.cutS m) (s.cutS m) ly _).drop, ?_⟩
      have := cutS_len s m
      omega
  · obtain ⟨q, eq, hq1, hq2⟩ : ∃ q, q = (min (kl : Int) 100).toNat ∧ q ≤ kl ∧ q ≤ 100 := ⟨_, rfl, by omega, by omega⟩
    obtain ⟨ks, hks⟩ : ∃ ks, ks = (List.range q).map K := ⟨_, rfl⟩
    have hkl : ks.length = q := by simp [hks]
    have KE : ∀ w', Below W0.heap.size W0 w' → ∀ i (hi : i < ks.length), ∃ b, ko = some b ∧ w'.cell? (b.add i) = some (.int .i64 ks[i]) ∧ b.block < W0.heap.size := by
      intro w' hB i hi
      obtain ⟨b, e, hb, hc⟩ := HK.out i (by omega)
      exact ⟨b, e, by rw [hc w' hB]; simp [hks], hb⟩
    have X2 := Lib.hid (fun w' (hT : PairL W0 w' D R n s s ly [.int .i64 c, .int .i64 a, .int .i64 m, .string S, .slice ko kl kc]) => hT.step2 (fun F hF hm => refCrash_any R n F s ko ks q kc m w' hkl hF (by omega) (by omega) (fun i hi => by
      obtain ⟨b, e, hc, hb⟩ := KE w' hT.below i hi
      exact ⟨b, e, hc⟩) bm))
    have X1 := Lib.hid (fun w' (hT : PairL W0 w' D R n s (s.crashS ks m) ly [.int .i64 c, .int .i64 a, .int .i64 m, .string S, .slice ko kl kc]) => hT.step1 (fun F hF hm => crash_at D n F s ko ks q kc m w' hkl hF (by omega) (by omega) (fun i hi => by
      obtain ⟨b, e, hc, hb⟩ := KE w' hT.below i hi
      exact ⟨b, e, hc, fun hz => absurd (hm _ hz) (by omega)⟩) bm))
    have PL := Lib.hid (show (s.crashS ks m).pend.length ≤ s.pend.length + 1 by simp [DS.crashS])
    clear KE HK hks hkl
    go_enter Try.func19, Try.ntmps19
    go_wp2_with fail
    refine (CP.out _).mono ?_
    rintro e w2 ⟨rfl, rfl⟩
    go_wp2_with fail
    rw [← ew, ← el]
    obtain ⟨k0, k1, k2, k3, k4⟩ := T4.out.cells
    clear ew el
    go_wp2_with fail
    rw [← eq]
    clear eq
    with_reducible refine Calls.mono (X2.out _ T4.out) ?_
    rintro e w2 ⟨rfl, hT⟩
    have T5 := Lib.hid hT
    clear hT k0 k1 k2 k3 k4 T4 X2
    obtain ⟨k0, k1, k2, k3, k4⟩ := T5.out.cells
    go_wp2_with fail
    with_reducible refine Calls.mono (X1.out _ T5.out) ?_
    rintro e w3 ⟨rfl, hT⟩
    have T6 := Lib.hid hT
    clear hT k0 k1 k2 k3 k4 T5 X1
    go_wp2
    go_ret
    exact ⟨rfl, _, T6.out.drop, PL.out⟩
end Go.Proofs.Ytgmghfgcpjpigaa
