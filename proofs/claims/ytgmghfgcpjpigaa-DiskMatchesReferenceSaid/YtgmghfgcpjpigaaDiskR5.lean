/- The reference's disk is synced, read, cut off; what its crash asks of the list of survivors. -/
import Derived.Test.YtgmghfgcpjpigaaDiskR3
import Derived.Test.YtgmghfgcpjpigaaDiskR4
namespace Go.Proofs.Ytgmghfgcpjpigaa
open Go.RowKit

set_option maxHeartbeats 1000000 in
theorem refSync_any (R n : Nat) (F : Nat → Prop) (s : DS) (w : World) (h : RefD w F R n s) (hp : s.pend.length ≤ 1000) :
    Calls Try.prog 31 #[at_ R] w fun e w' => e = .returned (.int .i64 s.powE) ∧ RStep w w' F R n s.syncS := by
  have HD := Lib.hid h
  have HG := Lib.hid (DS.syncS_good h.good)
  obtain ⟨G, sc, lv, h, rfl⟩ := h
  obtain ⟨h0, h1, h2, h3, hf⟩ := row4 h.head
  cases ho : s.off
  · rw [ho] at h2
    have e1 : s.powE = 0 := by simp [DS.powE, ho]
    have e2 : s.syncS = { s with sure := s.vis, pend := [] } := by simp [DS.syncS, ho]
    rw [e2] at HG
    rw [e1, e2]
    have CV := Lib.hid (visible_any R G sc n lv s w h hp)
    have H := Lib.hid h
    have hrl := h.head.lt
    clear e1 e2 h ho HD h0 h1 h3 hf
    go_enter Try.func31, Try.ntmps31
    go_wp2_with fail
    refine CV.out.mono ?_
    rintro e w2 ⟨g, gc, rfl, hb, hg, hown⟩
    have hR2 := H.out.head.next hb
    obtain ⟨f0, f1, f2, f3, ff⟩ := row4 hR2
    have K := Lib.hid (And.intro hR2 (And.intro hb (And.intro hg hown)))
    clear hR2 hb hg hown h2
    go_wp2
    go_ret
    obtain ⟨hR2, hb, hg, hown⟩ := K.out
    have hO : Only (fun j => j = R) w2 ((w2.setCell ⟨R, 0, none⟩ (.slice (some ⟨g, 0, none⟩) n gc)).setCell ⟨R, 1, none⟩ (.slice none 0 0)) := by
      refine Only.setCell (Only.setCell (Only.refl _ _) ?_ _) ?_ _ <;> exact .inl rfl
    exact ⟨rfl, ref_done H.out ((Only.of_below hb).trans hO (fun j hj => .inl (.inl hj))) (.inr hg) (.inr (.inl rfl))
      ⟨(hR2.set 0 _).set 1 _, ownsRow_same hown (fun g' hg' => hO.block g' (hown.lt g' hg').2 (fun e => by cases hg'; have e' : g = R := e; omega)), World.ownsRow_nil _ _ _ _, HG.out, H.out.room⟩⟩
  · rw [ho] at h2
    have e1 : s.powE = 331 := by simp [DS.powE, ho]
    have e2 : s.syncS = s := by simp [DS.syncS, ho]
    rw [e1, e2]
    clear e1 e2 h ho h0 h1 h3 hf HG
    go_enter Try.func31, Try.ntmps31
    go_wp2
    go_ret
    exact ⟨rfl, RStep.same HD.out⟩

theorem own_text {P : Program} {w : World} {g b0 n gc : Nat} {t : TypeId} {l : List UInt8} (h : w.ownsRow b0 t 1 (.slice (some ⟨g, 0, none⟩) n gc) n (l.map byteV)) (src dst e : TypeId) (a m cap : Nat) (hm : a + m ≤ n) (hs : P.underlying src = some (.slice e)) (he : P.underlying e = some (.int .u8)) (hd : P.underlying dst = some .string) :
    (convert src dst (.slice (some ⟨g, a, none⟩) m cap)).run P w = .ok (.string ⟨((l.drop a).take m).toArray⟩) w := by
  have hll : l.length = n := by have := h.1; simpa using this
  have hl : ((l.drop a).take m).length = m := by simp; omega
  have := run_convert_bytes_back (P := P) w src dst e ⟨g, a, none⟩ cap ((l.drop a).take m) hs he hd fun j hj => by
    have e : Addr.add ⟨g, a, none⟩ j = ⟨g, a + j, none⟩ := by unfold Addr.add; split <;> simp_all
    rw [hl] at hj
    rw [e, h.cellAt (a + j) (by omega)]
    simp [List.getElem?_eq_getElem (show a + j < l.length by omega)]
  rwa [hl] at this

set_option maxHeartbeats 1000000 in
theorem refRead_any (R n : Nat) (F : Nat → Prop) (s : DS) (a m : Int) (w : World) (h : RefD w F R n s) (ha : -9223372036854775808 ≤ a ∧ a ≤ 9223372036854775807) (hm : -9223372036854775808 ≤ m ∧ m ≤ 9223372036854775807) (hp : s.pend.length ≤ 1000) :
    Calls Try.prog 20 #[at_ R, .int .i64 a, .int .i64 m] w fun e w' => e = .returned (.tuple #[.string (s.readV a m), .int .i64 (s.readE a m)]) ∧ Below w.heap.size w w' := by
  obtain ⟨G, sc, lv, h, rfl⟩ := h
  obtain ⟨h0, h1, h2, h3, hf⟩ := row4 h.head
  have hs := h.good.sure
  obtain ⟨n1, n2⟩ := h.room
  cases ho : s.off
  · rw [ho] at h2
    by_cases hw : within n a m = true
    · obtain ⟨q0, q1, q2, q3⟩ := (within_iff _ _ _).1 hw
      obtain ⟨a, rfl⟩ := Int.eq_ofNat_of_zero_le q0
      obtain ⟨m, rfl⟩ := Int.eq_ofNat_of_zero_le q2
      have e1 : s.readV a m = ⟨((s.vis.drop a).take m).toArray⟩ := by simp [DS.readV, DS.readOk, ho, hs, hw]
      have e2 : s.readE a m = 0 := by simp [DS.readE, ho, hs, hw]
      rw [e1, e2]
      have CV := Lib.hid (visible_any R G sc n lv s w h hp)
      have HT := Lib.hid (fun (w2 : World) g gc (hown : w2.ownsRow 0 5 1 (.slice (some ⟨g, 0, none⟩) n gc) n (s.vis.map byteV)) =>
        And.intro (own_text (P := Try.prog) hown 40 9 5 a m (gc - a) (by omega) rfl rfl rfl) (own_text (P := Try.prog) hown 40 9 5 0 0 0 (by omega) rfl rfl rfl))
      have eT := Lib.hid (show m = 0 → (⟨((s.vis.drop a).take m).toArray⟩ : ByteArray) = ⟨#[]⟩ from fun h => by simp [h])
      obtain ⟨T, hT⟩ : ∃ T : ByteArray, T = ⟨((s.vis.drop a).take m).toArray⟩ := ⟨_, rfl⟩
      rw [← hT] at HT eT ⊢
      have g1 : ¬ (a : Int) < 0 := by omega
      have g2 : ¬ (m : Int) < 0 := by omega
      have g3 : ¬ (n : Int) < (a : Int) := by omega
      have g4 : ¬ (n : Int) - (a : Int) < (m : Int) := by omega
      clear e1 e2 h ho hw hs h1 h3 hf hT
      go_enter Try.func20, Try.ntmps20
      go_wp2_with fail
      refine CV.out.mono ?_
      rintro e w2 ⟨g, gc, rfl, hb, hg, hown⟩
      obtain ⟨hcv, hcz⟩ := HT.out w2 g gc hown
      have hgc : n ≤ gc := by
        rcases hown.2 with ⟨e, _⟩ | ⟨g', cap', cur, e, _, _, h4, _⟩
        · cases e
        · simp only [Value.slice.injEq, Option.some.injEq, Addr.mk.injEq] at e
          omega
      have hb2 := Lib.hid hb
      clear hb hown hg
      rw [List.take_zero] at hcz
      by_cases hna : gc = a
      · have hm0 : m = 0 := by omega
        have eT' := Lib.hid (eT.out hm0)
        clear eT
        subst hm0
        subst hna
        clear hcv
        go_wp2
        go_ret2
        exact ⟨by rw [eT'.out]; rfl, hb2.out⟩
      · clear hcz
        go_wp2
        go_ret2
        exact ⟨rfl, hb2.out⟩
    · have hw' : within n a m = false := by simpa using hw
      have e1 : s.readV a m = ⟨#[]⟩ := by simp [DS.readV, DS.readOk, ho, hs, hw']
      have e2 : s.readE a m = 330 := by simp [DS.readE, ho, hs, hw']
      have key : a < 0 ∨ (¬ a < 0 ∧ m < 0) ∨ (¬ a < 0 ∧ ¬ m < 0 ∧ (n : Int) < a) ∨ (¬ a < 0 ∧ ¬ m < 0 ∧ ¬ (n : Int) < a ∧ (n : Int) - a < m) := by
        rw [within_iff] at hw
        omega
      rw [e1, e2]
      clear e1 e2 h ho h1 h3 hf hw hw' hs
      rcases key with k0 | ⟨k0, k1⟩ | ⟨k0, k1, k2⟩ | ⟨k0, k1, k2, k3⟩
      all_goals
        go_enter Try.func20, Try.ntmps20
        go_wp2
        go_ret2
        exact ⟨rfl, Below.refl _ _⟩
  · rw [ho] at h2
    have e1 : s.readV a m = ⟨#[]⟩ := by simp [DS.readV, DS.readOk, ho]
    have e2 : s.readE a m = 331 := by simp [DS.readE, ho]
    rw [e1, e2]
    clear e1 e2 h ho h0 h1 h3 hf hs
    go_enter Try.func20, Try.ntmps20
    go_wp2
    go_ret2
    exact ⟨rfl, Below.refl _ _⟩

set_option maxHeartbeats 1000000 in
theorem refCut_any (R n : Nat) (F : Nat → Prop) (s : DS) (k : Int) (w : World) (h : RefD w F R n s) (hk : k ≤ 9223372036854775807) :
    Calls Try.prog 32 #[at_ R, .int .i64 k] w fun e w' => e = .returned (.int .i64 (s.cutE k)) ∧ RStep w w' F R n (s.cutS k) := by
  have HD := Lib.hid h
  have HG := Lib.hid (DS.cutS_good h.good k hk)
  obtain ⟨G, sc, lv, h, rfl⟩ := h
  obtain ⟨h0, h1, h2, h3, hf⟩ := row4 h.head
  have fin : ∀ (wf : World) (s' : DS), Only (fun j => j = R) w wf → s'.sure = s.sure → s'.pend = s.pend → s'.Good n → Row wf R 43 [.slice (some ⟨G, 0, none⟩) n sc, lv, .bool s'.off, .int .i64 s'.after] → RStep w wf (FootR R G lv) R n s' := by
    intro wf s' hO e1 e2 hg hR
    refine ref_done h (hO.mono (fun j hj => .inl hj)) (.inl rfl) (.inl rfl) ⟨hR, ?_, ?_, hg, h.room⟩
    · rw [e1]
      exact ownsRow_same h.sure (fun g hg => hO.block g (h.sure.lt g hg).2 (fun e => by cases hg; exact h.ne.1 e))
    · rw [e2]
      exact ownsRow_same h.pend (fun g hg => hO.block g (h.pend.lt g hg).2 (fun e => h.ne.2.1 (by rw [hg, e])))
  have FI := Lib.hid fin
  have H := Lib.hid h
  clear fin
  cases ho : s.off
  · rw [ho] at h2
    rcases show k < 0 ∨ k = 0 ∨ 0 < k by omega with k0 | rfl | k0
    · have e1 : s.cutE k = 2 := by simp [DS.cutE, ho, k0]
      have e2 : s.cutS k = s := by simp [DS.cutS, ho, k0]
      rw [e1, e2]
      clear e1 e2 h ho h0 h1 h3 hf
      go_enter Try.func32, Try.ntmps32
      go_wp2
      go_ret
      exact ⟨rfl, RStep.same HD.out⟩
    · have e1 : s.cutE 0 = 0 := by simp [DS.cutE, ho]
      have e2 : s.cutS 0 = { s with off := true, after := 0 } := by simp [DS.cutS, ho]
      rw [e2] at HG
      rw [e1, e2]
      clear e1 e2 h ho h0 h1
      go_enter Try.func32, Try.ntmps32
      go_wp2
      go_ret
      refine ⟨rfl, FI.out _ _ ?_ rfl rfl HG.out ((H.out.head.set 3 _).set 2 _)⟩
      refine Only.setCell (Only.setCell (Only.refl _ _) ?_ _) ?_ _ <;> exact .inl rfl
    · have g1 : ¬ k < 0 := by omega
      have g2 : ¬ k = 0 := by omega
      have e1 : s.cutE k = 0 := by simp [DS.cutE, ho, g1]
      have e2 : s.cutS k = { s with after := k.toNat } := by simp [DS.cutS, ho, g1, g2]
      rw [e2] at HG
      rw [e1, e2]
      obtain ⟨k, rfl⟩ := Int.eq_ofNat_of_zero_le (show 0 ≤ k by omega)
      have HO := Lib.hid ho
      have KB := Lib.hid (show ((k : Int) == 0) = false from beq_eq_false_iff_ne.2 g2)
      clear e1 e2 h h0 h1 ho
      go_enter Try.func32, Try.ntmps32
      go_wp2
      go_ret
      refine ⟨rfl, FI.out _ _ ?_ rfl rfl HG.out ?_⟩
      · refine Only.setCell (Only.setCell (Only.refl _ _) ?_ _) ?_ _ <;> exact .inl rfl
      · show Row _ _ _ [_, _, .bool s.off, .int .i64 (k : Nat)]
        rw [HO.out, KB.out]
        exact (H.out.head.set 3 _).set 2 _
  · rw [ho] at h2
    have e1 : s.cutE k = 331 := by simp [DS.cutE, ho]
    have e2 : s.cutS k = s := by simp [DS.cutS, ho]
    rw [e1, e2]
    clear e1 e2 h ho h0 h1 h3 hf HG
    go_enter Try.func32, Try.ntmps32
    go_wp2
    go_ret
    exact ⟨rfl, RStep.same HD.out⟩

set_option maxHeartbeats 1000000 in
theorem has_any (o : Option Addr) (ks : List Int) (cap : Nat) (z : Int) (w : World) (hl : ks.length ≤ 1000) (hk : ∀ i (hi : i < ks.length), ∃ a, o = some a ∧ w.cell? (a.add i) = some (.int .i64 ks[i])) :
    Calls Try.prog 39 #[.slice o ks.length cap, .int .i64 z] w fun e w' => e = .returned (.bool (ks.contains z)) ∧ w = w' := by
  have HK := Lib.hid hk
  clear hk
  go_enter Try.func39, Try.ntmps39
  go_wp2_with fail
  go_loopw [5] (fun i wr => ∃ k : Nat, k ≤ ks.length ∧ i = .int .i64 k ∧ wr = w ∧ ¬ z ∈ ks.take k) (fun i _ => ks.length - (intOf i).toNat)
  case atStart => exact ⟨0, Nat.zero_le _, rfl, rfl, by simp⟩
  case round =>
    obtain ⟨k, hk, rfl, rfl, hn⟩ := hrel
    by_cases hlt : k < ks.length
    · obtain ⟨ad, rfl, hc⟩ := HK.out k hlt
      obtain ⟨y, ey⟩ : ∃ y, y = ks[k] := ⟨_, rfl⟩
      rw [← ey] at hc
      by_cases hyz : y = z
      · have hcon := Lib.hid (show ks.contains z = true by rw [List.contains_iff_mem, ← hyz, ey]; exact List.getElem_mem hlt)
        subst hyz
        clear hn ey
        go_wp2_with fail
        go_ret
        exact ⟨by rw [hcon.out]; rfl, rfl⟩
      · have HN := Lib.hid (show ¬ z ∈ ks.take (k + 1) by
          rw [take_more hlt, List.mem_append, ← ey]
          rintro (h | h)
          · exact hn h
          · exact hyz (List.mem_singleton.1 h).symm)
        clear hn ey
        go_wp2_with fail
        go_roundw
        case rel => exact ⟨k + 1, by omega, by go_num, trivial, HN.out⟩
        case measure => simp [intOf]; omega
    · obtain rfl : k = ks.length := by omega
      rw [List.take_length] at hn
      have hcon := Lib.hid (show ks.contains z = false by rw [← Bool.not_eq_true, List.contains_iff_mem]; exact hn)
      clear hn hlt hk
      go_wp2_with fail
      go_ret
      exact ⟨by rw [hcon.out]; rfl, rfl⟩
end Go.Proofs.Ytgmghfgcpjpigaa
