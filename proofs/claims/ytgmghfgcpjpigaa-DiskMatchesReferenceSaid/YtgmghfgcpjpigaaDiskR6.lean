/- The reference's disk crashes. -/
import Derived.Test.YtgmghfgcpjpigaaDiskR5
namespace Go.Proofs.Ytgmghfgcpjpigaa
open Go.RowKit

set_option maxRecDepth 100000 in
set_option maxHeartbeats 4000000 in
theorem refCrash_any (R n : Nat) (F : Nat → Prop) (s : DS) (o : Option Addr) (ks : List Int) (len cap : Nat) (torn : Int) (w : World) (hlen : ks.length = len) (h : RefD w F R n s) (hm : s.pend.length ≤ 1000) (hl : ks.length ≤ 1000)
    (hk : ∀ i (hi : i < ks.length), ∃ a, o = some a ∧ w.cell? (a.add i) = some (.int .i64 ks[i])) (ht : -9223372036854775808 ≤ torn ∧ torn ≤ 9223372036854775807) :
    Calls Try.prog 33 #[at_ R, .slice o len cap, .int .i64 torn] w fun e w' => e = .returned (.tuple #[]) ∧ RStep w w' F R n (s.crashS ks torn) := by
  subst hlen
  have HG := Lib.hid (DS.crashS_good h.good ks torn)
  obtain ⟨G, sc, lv, h, rfl⟩ := h
  obtain ⟨h0, h1, h2, h3, hf⟩ := row4 h.head
  have H := Lib.hid h
  have HK := Lib.hid hk
  obtain ⟨m, em⟩ : ∃ m, m = s.pend.length := ⟨_, rfl⟩
  obtain ⟨po, pc, rfl⟩ : ∃ po pc, lv = .slice po m pc := by
    rcases h.pend.2 with ⟨rfl, e⟩ | ⟨g, cap, cur, rfl, _⟩
    · exact ⟨none, 0, by rw [em, e]⟩
    · exact ⟨_, _, by rw [em]⟩
  rw [← em] at hm
  have HM := Lib.hid em
  obtain ⟨i0, hi, hz0, hz1, hz2⟩ := info_parts infoChange
  obtain ⟨n1, n2⟩ := h.room
  have hRl := h.head.lt
  clear h hk h0 h2 h3 hf em
  go_enter Try.func33, Try.ntmps33
  go_wp2_with fail
  go_loopw [6, 7] (fun v i wr => ∃ k : Nat, k ≤ m ∧ i = .int .i64 k ∧ wr.ownsRow w.heap.size 71 2 v (survK s.pend (keptB m ks) k).length (pendC (survK s.pend (keptB m ks) k)) ∧ Below w.heap.size w wr) (fun _ i _ => m - (intOf i).toNat)
  case atStart => exact ⟨0, Nat.zero_le _, rfl, World.ownsRow_nil _ _ _ _, Below.refl _ _⟩
  case round =>
    obtain ⟨k, hk, rfl, hown, hB⟩ := hrel
    have H2 := Lib.hid (H.out.keep (fun j hj => hB.block j (H.out.lt j hj)))
    obtain ⟨f0, f1, f2, f3, ff⟩ := row4 H2.out.head
    have W := Lib.hid hown
    have B := Lib.hid hB
    have hsz := hB.size
    by_cases hlt : k < m
    · obtain ⟨⟨a, x⟩, hp⟩ : ∃ p, s.pend[k]? = some p := ⟨_, List.getElem?_eq_getElem (by rw [← HM.out]; exact hlt)⟩
      obtain ⟨gl, rfl⟩ : ∃ gl, po = some ⟨gl, 0, none⟩ := by
        rcases H.out.pend.2 with ⟨e, _⟩ | ⟨g, _, _, e, _⟩
        · simp at e; omega
        · simp at e; exact ⟨g, e.1⟩
      have hP := H2.out.pend
      rw [← HM.out] at hP
      have c1 := hP.cellAt (k * 2) (by omega)
      have c2 := hP.cellAt (k * 2 + 1) (by omega)
      obtain ⟨q1, q2⟩ := pendC_at s.pend k _ hp
      rw [Nat.mul_comm] at q1 q2
      rw [q1] at c1
      rw [q2] at c2
      have CH := Lib.hid (has_any o ks cap k wr hl (fun i hi => by
        obtain ⟨a, e, hc⟩ := HK.out i hi
        exact ⟨a, e, (hB.cell (World.block_lt_of_cell? w _ hc)).trans hc⟩))
      have sle := surv_le (pend := s.pend) (kp := keptB m ks) k
      have hkc : keptB m ks k = ks.contains (k : Int) := by simp [keptB, hlt]
      cases hcon : ks.contains (k : Int)
      · rw [hcon] at CH hkc
        have ES := Lib.hid (surv_skip hp hkc)
        clear q1 q2 hP hp hB hown hcon hkc f0 f2 f3 ff c1 c2
        go_wp2_with fail
        refine CH.out.mono ?_
        rintro e w3 ⟨rfl, rfl⟩
        go_wp2_with fail
        go_roundw
        case rel => exact ⟨k + 1, by omega, by go_num, by rw [ES.out]; exact W.out, B.out⟩
        case measure => simp [intOf]; omega
      · rw [hcon] at CH hkc
        have ES := Lib.hid (surv_more hp hkc)
        clear q1 q2 hP hp hB hcon hkc f0 f2 f3 ff
        go_wp2_with fail
        refine CH.out.mono ?_
        rintro e w3 ⟨rfl, rfl⟩
        go_wp2_with (at_builtin; refine wpList_append_own_at _ rfl _ _ 41 rfl w.heap.size 71 i0 _ 2 24 Try.underlying41 hi hz0 hz1 hz2 rfl (by decide) _ (survK s.pend (keptB m ks) k).length (pendC (survK s.pend (keptB m ks) k)) rfl (hown.alloc _) ⟨wr.heap.size, 0, none⟩ 1 1 [.int .i64 a, .string x] rfl rfl (cells2_new _ _ _ _) (by simp [Value.oneCell']) (by unfold maxLen; omega) (by omega) (by simp; omega) ?_; intro v' w4 hown' hgrow _ hat; have K := Lib.hid (And.intro hown' hgrow); clear hown' hgrow hat)
        go_roundw
        case rel =>
          obtain ⟨hown', hgrow⟩ := K.out
          refine ⟨k + 1, by omega, by go_num, ?_, (B.out.alloc hsz _).grown hgrow (by simp; omega) (fun k hk => (W.out.lt k hk).1)⟩
          rw [ES.out, List.length_append, pendC_append]
          exact hown'
        case measure => simp [intOf]; omega
    · obtain rfl : k = m := by omega
      obtain ⟨l, hl'⟩ : ∃ l, l = survK s.pend (keptB k ks) k := ⟨_, rfl⟩
      rw [← hl'] at hown
      have EC := Lib.hid (show crashR l torn l.length s.sure = s.crashL ks torn by rw [hl']; exact crashR_all s ks torn HM.out)
      have GL := Lib.hid (show ∀ p ∈ l, p.1 + p.2.size ≤ n by rw [hl']; exact surv_good H.out.good.pend)
      have lle : l.length ≤ 1000 := by rw [hl']; have := surv_le (pend := s.pend) (kp := keptB k ks) k; omega
      obtain ⟨q, eq⟩ : ∃ q, q = l.length := ⟨_, rfl⟩
      rw [← eq] at hown lle EC
      have EQ := Lib.hid eq
      obtain ⟨vo, vc, hv⟩ : ∃ vo vc, u6 = .slice vo q vc := by
        rcases hown.2 with ⟨e, e'⟩ | ⟨g, cap, cur, e, _⟩
        · exact ⟨none, 0, by rw [e, e']⟩
        · exact ⟨_, _, e⟩
      subst hv
      have W := Lib.hid hown
      clear hown hl' eq hlt hk ff f0 f2 f3 hB
      obtain ⟨wA, hA⟩ : ∃ wA, wA = wr := ⟨_, rfl⟩
      rw [← hA] at H2 W B f1 hsz ⊢
      clear hA
      have hne := H.out.ne
      have HN := Lib.hid hne
      have C0 := Lib.hid (show wA.ownsRow 0 5 1 (.slice (some ⟨G, 0, none⟩) n sc) n ((crashR l torn 0 s.sure).map byteV) from H2.out.sure)
      go_wp2_with fail
      go_loopw [8] (fun i wr => ∃ j : Nat, j ≤ q ∧ i = .int .i64 j ∧ wr.ownsRow 0 5 1 (.slice (some ⟨G, 0, none⟩) n sc) n ((crashR l torn j s.sure).map byteV) ∧ Only (fun j => j = G) wA wr) (fun i _ => q - (intOf i).toNat)
      case atStart => exact ⟨0, Nat.zero_le _, rfl, C0.out, Only.refl _ _⟩
      case round =>
        clear C0
        obtain ⟨j, hj, rfl, hC, hO⟩ := hrel
        have R2 := Lib.hid (hO.row H2.out.head hne.1.symm)
        have r0 := R2.out.cell 0
        simp only [List.getElem?_cons_zero] at r0
        have hrl : R < wr.heap.size := R2.out.lt
        by_cases hlt : j < q
        · obtain ⟨⟨a, x⟩, hp⟩ : ∃ p, l[j]? = some p := ⟨_, List.getElem?_eq_getElem (by rw [← EQ.out]; exact hlt)⟩
          have hfit : a + x.size ≤ n := GL.out _ (List.mem_of_getElem? hp)
          obtain ⟨gv, rfl⟩ : ∃ gv, vo = some ⟨gv, 0, none⟩ := by
            rcases W.out.2 with ⟨e, _⟩ | ⟨g, _, _, e, _⟩
            · simp at e; omega
            · simp at e; exact ⟨g, e.1⟩
          have hP := W.out
          have hgG : gv ≠ G := fun e => own_own_ne hP H2.out.sure (by decide) rfl (by rw [e]; rfl)
          have c1 := hP.cellAt (j * 2) (by omega)
          have c2 := hP.cellAt (j * 2 + 1) (by omega)
          obtain ⟨q1, q2⟩ := pendC_at l j _ hp
          rw [Nat.mul_comm] at q1 q2
          rw [q1] at c1
          rw [q2] at c2
          replace c1 := hO.cell c1 hgG
          replace c2 := hO.cell c2 hgG
          have hvl : gv < wr.heap.size := World.block_lt_of_cell? _ _ c1
          have hll : (crashR l torn j s.sure).length = n := crashR_length H.out.good.sure GL.out j
          have hcr : crashR l torn (j + 1) s.sure = over (crashR l torn j s.sure) a (if j + 1 = q ∧ 0 ≤ torn then x.data.toList.take torn.toNat else x.data.toList) := by rw [crashR, hp, ← EQ.out]
          by_cases hto : j + 1 = q ∧ 0 ≤ torn ∧ torn < x.size
          · obtain ⟨t1, t2, t3⟩ := hto
            have HE := Lib.hid (show crashR l torn (j + 1) s.sure = over (crashR l torn j s.sure) a (x.extract 0 torn.toNat).data.toList by
              rw [hcr, if_pos ⟨t1, t2⟩]
              simp [ByteArray.data_extract])
            have K := Lib.hid (And.intro hC (And.intro hO (And.intro hll (show a + (x.extract 0 torn.toNat).size ≤ n by rw [ByteArray.size_extract]; omega))))
            have tj : ((j : Int) == (q : Int) - 1) = true := by rw [beq_iff_eq]; omega
            clear q1 q2 hP hp hC hO hll hcr hfit t1
            go_wp2_with fail
            refine wp_region_kin_tail 10 (by kernel_rfl) (by kernel_rfl) wr.heap.size 0 (by simp) (fun hk => ?_)
            simp only [List.take_succ_cons, List.take_zero, List.drop_succ_cons, List.drop_zero]
            repeat (go_big_quiet_step (fail))
            refine wpQuiet_nil ?_
            clear hk
            intro W2 hb
            have hbb := Lib.hid hb
            clear hb r0 c1 c2
            go_wp2_with fail
            refine (apply_any G n sc a _ _ W2 (own_next K.out.1 hbb.out) K.out.2.2.1 n2 K.out.2.2.2).mono ?_
            rintro e w5 ⟨rfl, hO5, hR5⟩
            have K5 := Lib.hid (And.intro hO5 hR5)
            clear hO5 hR5
            go_wp2_with fail
            go_roundw
            case rel =>
              obtain ⟨hO5, hR5⟩ := K5.out
              refine ⟨j + 1, by omega, by go_num, by rw [HE.out]; exact hR5, (K.out.2.1.then_below hbb.out).trans hO5 (fun j hj => .inl hj)⟩
            case measure => simp [intOf]; omega
          · have HE := Lib.hid (show crashR l torn (j + 1) s.sure = over (crashR l torn j s.sure) a x.data.toList by
              rw [hcr]
              by_cases hq : j + 1 = q ∧ 0 ≤ torn
              · rw [if_pos hq, List.take_of_length_le (by rw [size_list]; omega)]
              · rw [if_neg hq])
            have K := Lib.hid (And.intro hC (And.intro hO (And.intro hll hfit)))
            have hto' : (¬ (j : Int) = (q : Int) - 1) ∨ ((j : Int) = (q : Int) - 1 ∧ torn < 0) ∨ ((j : Int) = (q : Int) - 1 ∧ ¬ torn < 0 ∧ ¬ torn < x.size) := by omega
            clear q1 q2 hP hp hC hO hll hcr hfit hto
            replace hto' : (¬ (j : Int) = (q : Int) - 1) ∨ (((j : Int) == (q : Int) - 1) = true ∧ torn < 0) ∨ (((j : Int) == (q : Int) - 1) = true ∧ ¬ torn < 0 ∧ ¬ torn < x.size) := by simpa only [beq_iff_eq] using hto'
            rcases hto' with t1 | ⟨t1, t2⟩ | ⟨t1, t2, t3⟩
            all_goals
              go_wp2_with fail
              refine wp_region_kin_tail 10 (by kernel_rfl) (by kernel_rfl) wr.heap.size 0 (by simp) (fun hk => ?_)
              simp only [List.take_succ_cons, List.take_zero, List.drop_succ_cons, List.drop_zero]
              repeat (go_big_quiet_step (fail))
              refine wpQuiet_nil ?_
              clear hk
              intro W2 hb
              have hbb := Lib.hid hb
              clear hb r0 c1 c2
              go_wp2_with fail
              refine (apply_any G n sc a _ _ W2 (own_next K.out.1 hbb.out) K.out.2.2.1 n2 K.out.2.2.2).mono ?_
              rintro e w5 ⟨rfl, hO5, hR5⟩
              have K5 := Lib.hid (And.intro hO5 hR5)
              clear hO5 hR5
              go_wp2_with fail
              go_roundw
              case rel =>
                obtain ⟨hO5, hR5⟩ := K5.out
                refine ⟨j + 1, by omega, by go_num, by rw [HE.out]; exact hR5, (K.out.2.1.then_below hbb.out).trans hO5 (fun j hj => .inl hj)⟩
              case measure => simp [intOf]; omega
        · obtain rfl : j = q := by omega
          obtain ⟨g0, g1, g2, g3, gf⟩ := row4 R2.out
          rw [EC.out] at hC
          have K := Lib.hid (And.intro hC hO)
          clear hC hO hlt hj
          go_wp2_with fail
          go_end0
          obtain ⟨hC, hO⟩ := K.out
          have hf : Only (fun j => j = R) wr (((wr.setCell ⟨R, 1, none⟩ (.slice none 0 0)).setCell ⟨R, 2, none⟩ (.bool false)).setCell ⟨R, 3, none⟩ (.int .i64 0)) := by
            refine Only.setCell (Only.setCell (Only.setCell (Only.refl _ _) ?_ _) ?_ _) ?_ _ <;> exact .inl rfl
          refine ⟨rfl, ref_done H.out (((Only.of_below B.out).trans hO (fun j hj => .inl (.inr (.inl hj)))).trans hf (fun j hj => .inl (.inl hj))) (.inl rfl) (.inr (.inl rfl))
            ⟨((R2.out.set 1 _).set 2 _).set 3 _, ownsRow_same hC (fun g' hg' => hf.block g' (hC.lt g' hg').2 (fun e => by cases hg'; exact HN.out.1 e)), World.ownsRow_nil _ _ _ _, HG.out, H.out.room⟩⟩
end Go.Proofs.Ytgmghfgcpjpigaa
