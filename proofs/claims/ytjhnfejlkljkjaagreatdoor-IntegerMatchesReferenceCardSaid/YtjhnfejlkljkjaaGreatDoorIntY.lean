/- The greatest common divisor of numbers. -/
import Derived.Test.YtjhnfejlkljkjaaGreatDoorIntS
namespace Go.Proofs.YtjhnfejlkljkjaaGreatDoor
open Go.RowKit

theorem NSl.inj {w : World} {v : Value} {n m : Nat} (h : NSl w v n) (k : NSl w v m) : n = m := by
  obtain ⟨o, c, rfl, h1, h2, h3, h4⟩ := h.ex
  obtain ⟨o', c', e, k1, k2, k3, k4⟩ := k.ex
  have hl : (In.gs n).length = (In.gs m).length := by injection e
  have ho : o = o' := by injection e
  subst ho
  refine In.gr_inj (B := 10000) (by decide) ?_
  apply List.ext_getElem? 
  intro j
  rcases Nat.lt_or_ge j (In.gs n).length with hj | hj
  · rcases h4 with h4 | ⟨b, off, rfl, hb, hc⟩
    · rw [h4] at hj; simp at hj
    · rcases k4 with k4 | ⟨b', off', e', hb', hc'⟩
      · rw [k4] at hl; simp at hl; rw [hl] at hj; simp at hj
      · cases e'
        have a1 := hc j _ (List.getElem?_eq_getElem hj)
        have a2 := hc' j _ (List.getElem?_eq_getElem (by rw [← hl]; exact hj))
        rw [a1] at a2
        injection a2 with a3
        injection a3 with _ a4
        show (In.gs n)[j]? = (In.gs m)[j]?
        rw [List.getElem?_eq_getElem hj, List.getElem?_eq_getElem (by rw [← hl]; exact hj)]
        congr 1
        omega
  · show (In.gs n)[j]? = (In.gs m)[j]?
    rw [List.getElem?_eq_none hj, List.getElem?_eq_none (by omega)]
/-- how many groups -/
def GLe (n k : Nat) : Prop := (In.gs n).length ≤ k
open Classical in
/-- the number that a slice holds -/
noncomputable def natOf (w : World) (v : Value) : Nat := if h : ∃ n, NSl w v n then Classical.choose h else 0
theorem natOf_is {w : World} {v : Value} {n : Nat} (h : NSl w v n) : natOf w v = n := by
  have h0 : ∃ n, NSl w v n := ⟨n, h⟩
  unfold natOf
  rw [dif_pos h0]
  exact NSl.inj (Classical.choose_spec h0) h
set_option maxRecDepth 100000 in
set_option maxHeartbeats 2000000 in
theorem gcdZ_any (u v : Value) (x y : Int) (w : World) (hu : NumV w u x) (hv : NumV w v y) (lx : (In.gs x.natAbs).length ≤ 900) (ly : (In.gs y.natAbs).length ≤ 900) :
    Calls Tryz.prog 43 #[u, v] w fun e w' => ∃ r, e = .returned r ∧ NumV w' r (In.gcdZ x y) ∧ Below w.heap.size w w' := by
  obtain ⟨o, L, c, s, rfl, hs, -, hsn⟩ := hu.form
  obtain ⟨o', L', c', s', rfl, hs', -, hsn'⟩ := hv.form
  have HS := Lib.hid (And.intro hs hs')
  obtain ⟨G, hG⟩ : ∃ G, G = Nat.gcd x.natAbs y.natAbs := ⟨_, rfl⟩
  have HG := Lib.hid hG
  show Calls _ _ _ _ fun e w' => ∃ r, e = .returned r ∧ NumV w' r ((Nat.gcd x.natAbs y.natAbs : Nat) : Int) ∧ Below w.heap.size w w'
  rw [← hG]
  have HL := Lib.hid (And.intro lx ly)
  generalize x.natAbs = X at *
  generalize y.natAbs = Y at *
  clear hs hsn hu hs' hsn' hv hG lx ly
  go_enter Tryz.func43, Tryz.ntmps43
  go_upto_region 1 with (fail)
  refine wp_named fun w1 hw => ?_
  obtain ⟨b1, hb1⟩ : ∃ x, x = w.heap.size := ⟨_, rfl⟩
  obtain ⟨b2, hb2⟩ : ∃ x, x = w.heap.size + 1 := ⟨_, rfl⟩
  obtain ⟨b3, hb3⟩ : ∃ x, x = w.heap.size + 1 + 1 := ⟨_, rfl⟩
  have R1 : Row w1 b1 47 [.slice o L c, .bool s] ∧ Row w1 b2 47 [.slice o' L' c', .bool s'] ∧ Row w1 b3 47 zeroN ∧ Below w.heap.size w w1 := by
    rw [hw, hb1, hb2, hb3]
    exact boxes2 w _ [.slice o L c, .bool s] [.slice o' L' c', .bool s'] zeroN
  rw [← hb3, ← hb2, ← hb1]
  have HR := Lib.hid R1
  have HE := Lib.hid hb3
  have k0 := (Row.cell R1.1 0).trans (show _ = some (.slice o L c) from rfl)
  have k2 := (Row.cell R1.2.1 0).trans (show _ = some (.slice o' L' c') from rfl)
  clear hw R1 hb1 hb2 hb3
  refine wp_region_quiet_lit (by kernel_rfl) (by kernel_rfl) ?_
  repeat (go_big_quiet_step (fail))
  refine wpQuiet_nil ?_
  rintro _ ⟨nq, rfl⟩
  clear k0 k2
  have HB1 := Lib.hid (below_drewN HR.out.2.2.2 nq)
  have HR3 := Lib.hid (show Row (w1.drewN nq) b3 47 zeroN from HR.out.2.2.1.next (below_drewN (Below.refl _ _) nq))
  generalize w1.drewN nq = w2 at *
  clear HR
  go_wp2_with fail
  go_loopw [5, 6] (fun nv mv wr => ∃ N M, NSl wr nv N ∧ NSl wr mv M ∧ Nat.gcd N M = G ∧ (In.gs N).length ≤ 900 ∧ (In.gs M).length ≤ 900 ∧ Row wr b3 47 zeroN ∧ Below w.heap.size w wr) (fun _ mv wr => natOf wr mv)
  case atStart => exact ⟨X, Y, HS.out.1.next HB1.out, HS.out.2.next HB1.out, HG.out.symm, HL.out.1, HL.out.2, HR3.out, HB1.out⟩
  case round =>
    obtain ⟨N, M, hn, hm, hg, lN, lM, hR, hB⟩ := hrel
    have hmeas := Lib.hid (natOf_is hm)
    have HNM := Lib.hid (And.intro hn (And.intro hm (And.intro hg (And.intro hR hB))))
    have hM0 := In.gs_nil (n := M)
    obtain ⟨o1, c1, rfl, _⟩ := hn.ex
    obtain ⟨o2, c2, rfl, _⟩ := hm.ex
    clear hg hR hB hn hm HR3 HB1
    by_cases h0 : M = 0
    · subst h0
      have e0 : (In.gs 0).length = 0 := rfl
      have hgg : N = G := by
        have := HNM.out.2.2.1
        rwa [Nat.gcd_zero_right] at this
      subst hgg
      have CS := Lib.hid (signed_any (.slice o1 (In.gs N).length c1) N false wr HNM.out.1)
      generalize (In.gs N).length = LN at *
      rw [e0]
      clear hM0 e0
      go_wp2_with fail
      refine Calls.mono CS.out ?_
      rintro e w3 ⟨r, rfl, hn2, hb⟩
      have hn2 : NumV w3 r (N : Int) := hn2
      have hR2 := HNM.out.2.2.2.1.next hb
      have k6 := (Row.cell hR2 0).trans (show _ = some (.slice none 0 0) from rfl)
      have k7 := (Row.cell hR2 1).trans (show _ = some (.bool false) from rfl)
      have f6 := Row.frozen hR2 0
      have f7 := Row.frozen hR2 1
      obtain ⟨o3, L3, c3, s3, rfl, _, _, _⟩ := hn2.form
      have HF := Lib.hid (And.intro (num_store hR2 hn2) (Below.andThen HNM.out.2.2.2.2 hb))
      clear hn2 hb hR2
      go_wp2_with fail
      refine bodyPost_ret (v := .agg #[.slice o3 L3 c3, .bool s3]) (by first | (simp [results, Tryz.results43, go_sem]; done) | simp [results, Tryz.results43, go_sem, *]) rfl ⟨_, rfl, HF.out.1.1, HF.out.2.trans (HF.out.1.2.1.mono (by have := HE.out; omega))⟩
    · have hp : 0 < M := by omega
      have CO := Lib.hid (over_any (.slice o1 (In.gs N).length c1) (.slice o2 (In.gs M).length c2) N M wr HNM.out.1 HNM.out.2.1 hp lN lM)
      have HLM : GLe M 900 ∧ GLe (N % M) 900 := (And.intro lM (Nat.le_trans (gs_len_le (Nat.le_of_lt (Nat.mod_lt N hp))) lM))
      have HG2 := Lib.hid (show Nat.gcd M (N % M) = G from by
        have h1 := HNM.out.2.2.1
        rw [Nat.gcd_comm, Nat.gcd_rec, Nat.gcd_comm] at h1
        exact h1)
      have hlt := Lib.hid (Nat.mod_lt N hp)
      have hpos : 0 < (In.gs M).length := by
        rcases Nat.eq_zero_or_pos (In.gs M).length with h | h
        · exact absurd (hM0.1 h) h0
        · exact h
      clear lN lM hM0 h0
      generalize (In.gs M).length = LM at *
      generalize (In.gs N).length = LN at *
      go_wp2_with fail
      refine Calls.mono CO.out ?_
      rintro e w3 ⟨q, r, rfl, hq, hr, hb⟩
      have HK := Lib.hid (And.intro hr hb)
      clear hq hr hb
      go_wp2_with fail
      go_roundw
      case rel => exact ⟨M, N % M, HNM.out.2.1.next HK.out.2, HK.out.1, HG2.out, HLM.1, HLM.2, HNM.out.2.2.2.1.next HK.out.2, Below.andThen HNM.out.2.2.2.2 HK.out.2⟩
      case measure => rw [natOf_is HK.out.1, hmeas.out]; exact hlt.out
end Go.Proofs.YtjhnfejlkljkjaaGreatDoor
