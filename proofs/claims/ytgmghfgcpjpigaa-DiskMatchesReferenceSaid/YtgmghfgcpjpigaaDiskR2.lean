/- The reference's disk: its visible content, reading, syncing. -/
import Derived.Test.YtgmghfgcpjpigaaDiskR
import Derived.StillTailTactics
namespace Go.Proofs.Ytgmghfgcpjpigaa
open Go.RowKit

theorem infoChange : (Try.prog.info? 71).map (fun i => (i.zero, i.size, i.bytes)) = some (some (.agg #[.int .i64 0, .string ⟨#[]⟩]), 2, 24) := by kernel_rfl

theorem ownsRow_weak {W : World} {b0 : Nat} {e : TypeId} {size k : Nat} {v : Value} {xs : List Value} (h : W.ownsRow b0 e size v k xs) : W.ownsRow 0 e size v k xs := by
  obtain ⟨h1, h2⟩ := h
  refine ⟨h1, ?_⟩
  rcases h2 with h2 | ⟨g, cap, cur, h3, _, h5⟩
  · exact .inl h2
  · exact .inr ⟨g, cap, cur, h3, Nat.zero_le _, h5⟩
theorem ownsRow_base {W : World} {b0 b1 g n cap k : Nat} {e : TypeId} {size : Nat} {xs : List Value} (h : W.ownsRow b0 e size (.slice (some ⟨g, 0, none⟩) n cap) k xs) (hb : b1 ≤ g) : W.ownsRow b1 e size (.slice (some ⟨g, 0, none⟩) n cap) k xs := by
  obtain ⟨h1, h2⟩ := h
  refine ⟨h1, ?_⟩
  rcases h2 with ⟨h2, _⟩ | ⟨g', cap', cur, h3, _, h5⟩
  · cases h2
  · have e1 := h3
    simp only [Value.slice.injEq, Option.some.injEq, Addr.mk.injEq] at e1
    obtain ⟨⟨rfl, _⟩, _⟩ := e1
    exact .inr ⟨_, cap', cur, h3, hb, h5⟩
set_option maxRecDepth 100000 in
set_option maxHeartbeats 2000000 in
theorem visible_any (R G sc n : Nat) (lv : Value) (s : DS) (w : World) (h : RefAt w R G sc lv n s) (hm : s.pend.length ≤ 1000) :
    Calls Try.prog 34 #[at_ R] w fun e w' => ∃ g gc, e = .returned (.slice (some ⟨g, 0, none⟩) n gc) ∧ Below w.heap.size w w' ∧ w.heap.size ≤ g ∧ w'.ownsRow 0 5 1 (.slice (some ⟨g, 0, none⟩) n gc) n (s.vis.map byteV) := by
  obtain ⟨h0, h1, h2, h3, hf⟩ := row4 h.head
  have H := Lib.hid h
  obtain ⟨m, em⟩ : ∃ m, m = s.pend.length := ⟨_, rfl⟩
  rw [← em] at hm
  have HM := Lib.hid em
  obtain ⟨i0, hi, hz0, hz1, hz2⟩ := info_parts infoByte
  obtain ⟨n1, n2⟩ := h.room
  have hlit := World.ownsRow_lit (base := w.heap.size) (e := 5) (size := 1) w #[] 0 (Nat.le_refl _) (by decide) rfl
  have hsrc := h.sure.alloc (.cells #[] 5)
  have MM := Lib.hid (fun (w2 : World) (hg : (w.alloc (.cells #[] 5)).grownBy w2 (some w.heap.size)) => show Below w.heap.size w w2 from ((Below.refl _ w).alloc (Nat.le_refl _) _).grown hg (by simp) (fun j hj => by cases hj; exact Nat.le_refl _))
  obtain ⟨po, pc, rfl⟩ : ∃ po pc, lv = .slice po m pc := by
    rcases h.pend.2 with ⟨rfl, e⟩ | ⟨g, cap, cur, rfl, _⟩
    · exact ⟨none, 0, by rw [em, e]⟩
    · exact ⟨_, _, by rw [em]⟩
  have hRl := h.head.lt
  have hRn : w.heap.size ≠ R := by omega
  clear h em h2 h3 hf
  go_enter Try.func34, Try.ntmps34
  go_wp2_with (at_builtin; go_loud (refine wpList_append_src rfl _ _ 40 rfl w.heap.size 5 i0 _ 1 Try.underlying40 hi hz0 hz1 hz2 rfl (.slice (some ⟨w.heap.size, 0, none⟩) 0 0) 0 [] rfl hlit 0 _ n (s.sure.map byteV) rfl hsrc (fun u hu => by obtain ⟨x, _, rfl⟩ := List.mem_map.1 hu; rfl) (by unfold maxLen; omega) (by omega) (by simp) ?_; intro v' w2 hown' hgrow hat; obtain ⟨g, gc, rfl, hg⟩ := own_pos hown' (by omega); have hb2 := Lib.hid (MM.out w2 hgrow); have K2 := Lib.hid (And.intro hg hown'); clear hown' hgrow hat hg hlit hsrc))
  have k2 := K2.out.2
  (try simp only [Nat.zero_add, List.nil_append] at k2)
  have C0 := Lib.hid (show w2.ownsRow w.heap.size 5 1 (.slice (some ⟨g, 0, none⟩) n gc) n ((playL s.sure (s.pend.take 0)).map byteV) from k2)
  have hg := K2.out.1
  clear K2 k2
  go_loopw [4] (fun i wr => ∃ k : Nat, k ≤ m ∧ i = .int .i64 k ∧ wr.ownsRow w.heap.size 5 1 (.slice (some ⟨g, 0, none⟩) n gc) n ((playL s.sure (s.pend.take k)).map byteV) ∧ Below w.heap.size w wr) (fun i _ => m - (intOf i).toNat)
  case atStart => exact ⟨0, Nat.zero_le _, rfl, C0.out, hb2.out⟩
  case round =>
    clear C0
    obtain ⟨k, hk, rfl, hC, hB⟩ := hrel
    have H2 := Lib.hid (H.out.keep (fun j hj => hB.block j (H.out.lt j hj)))
    obtain ⟨f0, f1, f2, f3, ff⟩ := row4 H2.out.head
    by_cases hlt : k < m
    · obtain ⟨⟨a, x⟩, hp⟩ : ∃ p, s.pend[k]? = some p := ⟨_, List.getElem?_eq_getElem (by rw [← HM.out]; exact hlt)⟩
      have hfit : a + x.size ≤ n := H.out.good.pend _ (List.mem_of_getElem? hp)
      obtain ⟨gl, rfl⟩ : ∃ gl, po = some ⟨gl, 0, none⟩ := by
        rcases H.out.pend.2 with ⟨e, _⟩ | ⟨g, _, _, e, _⟩
        · simp at e; omega
        · simp at e; exact ⟨g, e.1⟩
      have hP := H2.out.pend
      rw [← HM.out] at hP
      have c1 := hP.cellAt (k * 2) (by omega)
      have c2 := hP.cellAt (k * 2 + 1) (by omega)
      obtain ⟨q1, q2⟩ := pendC_at s.pend k _ hp
      rw [Nat.mul_comm] at q1 q2
      rw [q1] at c1
      rw [q2] at c2
      have r1 : R < wr.heap.size := H2.out.head.lt
      have r2 : gl < wr.heap.size := (hP.lt gl rfl).2
      have hl : (playL s.sure (s.pend.take k)).length = n := playL_length H.out.good.sure (fun p hp => H.out.good.pend p (List.mem_of_mem_take hp))
      have HE := Lib.hid (show playL s.sure (s.pend.take (k + 1)) = over (playL s.sure (s.pend.take k)) a x.data.toList by rw [take_pend hp, playL_more])
      have K := Lib.hid (And.intro hC (And.intro hB (And.intro hl hfit)))
      clear q1 q2 hP hp hC hB f0 f2 f3 ff hl hfit
      go_wp2_with fail
      refine wp_region_kin_tail 17 (by kernel_rfl) (by kernel_rfl) wr.heap.size 0 (by simp) (fun hk => ?_)
      simp only [List.take_succ_cons, List.take_zero, List.drop_succ_cons, List.drop_zero]
      repeat (go_big_quiet_step (fail))
      refine wpQuiet_nil ?_
      clear hk
      intro W2 hb
      have hbb := Lib.hid hb
      clear hb f1 c1 c2
      go_wp2_with fail
      refine (apply_any g n gc a _ x W2 (ownsRow_weak (own_next K.out.1 hbb.out)) K.out.2.2.1 n2 K.out.2.2.2).mono ?_
      rintro e w5 ⟨rfl, hO, hR⟩
      have K5 := Lib.hid (And.intro hO hR)
      clear hO hR
      go_wp2_with fail
      go_roundw
      case rel =>
        obtain ⟨hO, hR⟩ := K5.out
        refine ⟨k + 1, by omega, by go_num, ?_, (K.out.2.1.trans (hbb.out.mono K.out.2.1.size)).trans (hO.below (Nat.le_trans K.out.2.1.size hbb.out.size) (fun j hj => by subst hj; exact hg))⟩
        rw [HE.out]
        exact ownsRow_base hR hg
      case measure => simp [intOf]; omega
    · obtain rfl : k = m := by omega
      have hC' : wr.ownsRow 0 5 1 (.slice (some ⟨g, 0, none⟩) n gc) n (s.vis.map byteV) := by
        rw [H.out.good.play]
        rw [HM.out, List.take_length] at hC
        exact ownsRow_weak hC
      have K := Lib.hid (And.intro hC' hB)
      clear hC hC' hB f0 f2 f3 ff hlt hk
      go_wp2_with fail
      go_ret
      exact ⟨g, gc, rfl, K.out.2, hg, K.out.1⟩
end Go.Proofs.Ytgmghfgcpjpigaa
