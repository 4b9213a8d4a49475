/- For every input, DigestProofAccepted returns true and leaves its arguments as they were; the rounds' table holds what the program's text lays. -/
import Derived.Test.YtojfblkmhdgjeaaDoorDigB2
import Derived.Test.YtojfblkmhdgjeaaDoorDigAp
import Derived.Test.YtojfblkmhdgjeaaDoorSlices
namespace Go.Proofs.YtojfblkmhdgjeaaDoor
open Go.RowKit Go.ChangeShapes Go.WideShapes Go.ChangeAt

theorem proofS_short (xs : List ByteArray) (i : Nat) : (proofS xs i).length ≤ binN xs.length := by
  rw [proofS_len]
  exact sidesN_len _ _ _ (Nat.le_of_lt (binN_lt _))
theorem sl_cell {w : World} {g : Nat} {xs : List ByteArray} (h : StrSl w (some ⟨g, 0, none⟩) xs) {k : Nat} {x : ByteArray} (hx : xs[k]? = some x) : w.cell? ⟨g, k, none⟩ = some (.string x) := by
  rcases h with rfl | ⟨b, off, e, _, hc⟩
  · simp at hx
  · cases e
    have := hc k x hx
    rwa [Nat.zero_add] at this
theorem sl_lt {w : World} {g : Nat} {xs : List ByteArray} (h : StrSl w (some ⟨g, 0, none⟩) xs) {k : Nat} {x : ByteArray} (hx : xs[k]? = some x) : g < w.heap.size := by
  rcases h with rfl | ⟨b, off, e, hl, _⟩
  · simp at hx
  · cases e
    exact hl
theorem binN_le {N : Nat} (h : N ≤ 1000) : binN N ≤ 64 := by
  unfold binN
  split
  · decide
  · have := (Nat.log2_lt (n := N) (k := 60) (by assumption)).2 (by omega)
    omega
theorem made_own (w : World) {B n : Nat} (hB : B ≤ w.heap.size) (hn : w.heap.size = n) : OwnS (w.alloc (.cells #[] 9)) B (.slice (some ⟨n, 0, none⟩) 0 0) [] := by
  subst hn
  exact World.ownsRow_made w #[] 0 hB (Nat.zero_le _) rfl
theorem row_new (w : World) (C : List Value) (t : TypeId) {n : Nat} (hn : w.heap.size = n) : Row (w.alloc (.cells C.toArray t)) n t C := by subst hn; exact Row.new w t C
theorem row_one {w : World} {b : Nat} {t : TypeId} {r : ByteArray} (h : Row w b t [.string r]) : StrSl w (some ⟨b, 0, none⟩) [r] := .inr ⟨b, 0, rfl, h.lt, h.str (xs := [r])⟩
theorem row_grown {w w' : World} {b : Nat} {t : TypeId} {C : List Value} {row : Option Nat} (h : Row w b t C) (hg : w.grownBy w' row) (hne : some b ≠ row) : Row w' b t C := (hg.block b h.lt hne).trans h
/-- a proof of another length is refused -/
theorem verifyS_long {root s : ByteArray} {n i : Int} {ps : List ByteArray} (h : (sidesN n.toNat i.toNat).length ≠ ps.length) : verifyS root n i s ps = false := by
  unfold verifyS
  rw [decide_eq_false h]
  simp

set_option maxRecDepth 100000 in
set_option maxHeartbeats 4000000 in
theorem digestProof_all (o : Option Addr) (n c : Nat) (S : Nat → ByteArray) (i : Int) (w : World) (T : Tab w) (hn : n ≤ maxLen) (hs : ∀ i, i < n → (S i).size ≤ maxLen)
    (hcell : ∀ i, i < n → ∃ a, o = some a ∧ ∀ w', Below w.heap.size w w' → w'.cell? (a.add i) = some (.string (S i))) (hi : -9223372036854775808 ≤ i ∧ i ≤ 9223372036854775807) :
    Calls Tryd.prog 6 #[.slice o n c, .int .i64 i] w fun r w' => r = .returned (.bool true) ∧ Below w.heap.size w w' := by
  obtain ⟨i0, hi0, hz0, hz1, hz2⟩ := info_parts infoStr
  have HT := Lib.hid T
  have HT0 := Lib.hid T
  have BB := Lib.hid (Below.refl w.heap.size w)
  have CF := Lib.hid (fun w' (hb : Below w.heap.size w w') => few_any o n c 40 S w' (by decide) hn hs (fun i hi => by
    obtain ⟨a, e, h⟩ := hcell i hi
    exact ⟨a, e, fun w2 hb2 => h w2 (Below.andThen hb hb2)⟩))
  clear T hcell hs
  go_enter Tryd.func6, Tryd.ntmps6
  go_wp2_with fail
  with_reducible refine Calls.mono (sane_any _ HT.out) ?_
  rintro e w1 ⟨rfl, hb⟩
  replace HT := Lib.hid (HT.out.next hb)
  replace BB := Lib.hid (Below.andThen BB.out hb)
  clear hb
  go_wp2_with fail
  with_reducible refine Calls.mono (CF.out _ BB.out) ?_
  rintro e w2 ⟨v, rfl, hown, hb⟩
  replace HT := Lib.hid (HT.out.next hb)
  replace BB := Lib.hid (Below.andThen BB.out hb)
  clear CF hb
  obtain ⟨xs, hxs⟩ : ∃ xs, xs = fewS S (min n 40) := ⟨_, rfl⟩
  have hxl : xs.length ≤ 40 := by rw [hxs, fewS_length]; omega
  have hsm : ∀ x ∈ xs, x.size ≤ 60 := by rw [hxs]; exact fewS_small S _
  rw [← hxs] at hown
  obtain ⟨vo, vc, rfl, v1, v2, v3⟩ := hown.form
  have HX := Lib.hid hown.sl
  have HP0 := hown.parts
  unfold maxLen at v2
  obtain ⟨N, hN⟩ : ∃ N, xs.length = N := ⟨_, rfl⟩
  rw [hN] at hxl v1 ⊢
  have HP := Lib.hid (show (vo = none ∧ vc = 0 ∧ N = 0) ∨ ∃ g, vo = some ⟨g, 0, none⟩ by
    rcases HP0 with ⟨h1, h2, h3⟩ | ⟨g, h, _⟩
    · exact .inl ⟨h1, h2, by rw [← hN, h3]; rfl⟩
    · exact .inr ⟨g, h⟩)
  clear hxs hown v3 HP0
  have CR := Lib.hid (fun w' (T' : Tab w') (h : StrSl w' vo xs) => Root_any N xs vo vc w' hN T' h v1 v2 (fun x h => by have := hsm x h; omega))
  have HSM := Lib.hid hsm
  have HN := Lib.hid hN
  obtain ⟨r, hr⟩ : ∃ r, r = rootS xs := ⟨_, rfl⟩
  have hrz : r.size = 32 := by rw [hr]; exact rootS_size _
  have HRZ := Lib.hid hrz
  rw [← hr] at CR
  have HR := Lib.hid hr
  clear hsm hr hN hrz
  go_wp2_with fail
  with_reducible refine Calls.mono (CR.out _ HT.out HX.out) ?_
  rintro e w3 ⟨rfl, hb⟩
  replace HT := Lib.hid (HT.out.next hb)
  replace HX := Lib.hid (HX.out.next hb)
  replace BB := Lib.hid (Below.andThen BB.out hb)
  clear hb
  go_wp2_with fail
  go_loopw [7] (fun i wr => ∃ k : Nat, k ≤ N ∧ i = .int .i64 k ∧ Below w3.heap.size w3 wr) (fun i _ => N - (intOf i).toNat)
  case atStart => exact ⟨0, Nat.zero_le _, rfl, Below.refl _ _⟩
  case round =>
    obtain ⟨k, hk, rfl, hB⟩ := hrel
    replace HT := Lib.hid (HT.out.next hB)
    replace HX := Lib.hid (HX.out.next hB)
    by_cases hlt : k < N
    · have BB2 := BB
      have BB := Lib.hid hB
      rcases HP.out with ⟨rfl, rfl, rfl⟩ | ⟨g, rfl⟩
      · omega
      have hkx : k < xs.length := by rw [HN.out]; exact hlt
      have HXK := Lib.hid (List.getElem?_eq_getElem hkx)
      have hxz := HSM.out xs[k] (List.getElem_mem hkx)
      have CE := Lib.hid (fun w' (T' : Tab w') (h : StrSl w' (some ⟨g, 0, none⟩) xs) => Proof_any xs (some ⟨g, 0, none⟩) vc k w' T' h (by rw [HN.out]; exact v1) v2 (by rw [HN.out]; omega) (fun x h => by have := HSM.out x h; omega) hkx)
      have hpl := proofS_short xs k
      have CV := Lib.hid (fun eo w' (T' : Tab w') (h : StrSl w' eo (proofS xs k)) => Verify_all (rootS xs) xs[k] xs.length k eo (proofS xs k).length (proofS xs k) w' T' (by rw [HN.out]; omega) h (by have := binN_le (N := xs.length) (by rw [HN.out]; omega); omega) (by omega))
      rw [proofS_ok (List.getElem?_eq_getElem hkx)] at CV
      have CB := Lib.hid (fun w => binary_any N w (by omega))
      have hbl := binN_le (N := N) (by omega)
      rw [HN.out] at CE CV hpl
      rw [← HR.out] at CV
      generalize (proofS xs k).length = PL at *
      generalize binN N = bn at *
      generalize xs[k] = x at *
      have d1 : decide ((bn : Int) < PL) = false := by simp; omega
      clear hB hkx
      go_wp2_with fail
      with_reducible refine Calls.mono (CE.out _ HT.out HX.out) ?_
      rintro e w5 ⟨eo, rfl, hE, hb⟩
      replace HT := Lib.hid (HT.out.next hb)
      replace HX := Lib.hid (HX.out.next hb)
      replace BB := Lib.hid (Below.andThen BB.out hb)
      have HE := Lib.hid hE; clear hE
      clear hb
      go_wp2_with fail
      with_reducible refine Calls.mono (CB.out _) ?_
      rintro e w6 ⟨rfl, rfl⟩
      have c1 := sl_cell HX.out HXK.out
      go_wp2_with fail
      with_reducible refine Calls.mono (CV.out _ _ HT.out HE.out) ?_
      rintro e w7 ⟨rfl, hb⟩
      replace HT := Lib.hid (HT.out.next hb)
      replace HX := Lib.hid (HX.out.next hb)
      replace HE := Lib.hid (HE.out.next hb)
      replace BB := Lib.hid (Below.andThen BB.out hb)
      clear hb
      go_wp2_with fail
      refine ⟨⟨k + 1, by omega, by go_num, BB.out⟩, by simp [intOf]; omega⟩
    · obtain rfl : k = N := by omega
      rename_i N
      replace BB := Lib.hid (Below.andThen BB.out hB)
      clear hB hlt
      by_cases hin : 0 ≤ i ∧ i < k
      · obtain ⟨j, rfl⟩ : ∃ j : Nat, i = j := ⟨i.toNat, by omega⟩
        have hj : j < k := by omega
        rcases HP.out with ⟨rfl, rfl, rfl⟩ | ⟨g, rfl⟩
        · omega
        have hjx : j < xs.length := by rw [HN.out]; exact hj
        have HXK := Lib.hid (List.getElem?_eq_getElem hjx)
        have hxz := HSM.out xs[j] (List.getElem_mem hjx)
        have CE := Lib.hid (fun w' (T' : Tab w') (h : StrSl w' (some ⟨g, 0, none⟩) xs) => Proof_any xs (some ⟨g, 0, none⟩) vc j w' T' h (by rw [HN.out]; exact v1) v2 (by rw [HN.out]; omega) (fun x h => by have := HSM.out x h; omega) hjx)
        have hpl := proofS_short xs j
        have hsl : (proofS xs j).length = (sidesN k j).length := by rw [proofS_len, HN.out]
        have hbl := binN_le (N := xs.length) (by rw [HN.out]; omega)
        have hP : (proofS xs j).length ≤ 64 := by omega
        have CV1 := Lib.hid (fun eo c w' (T' : Tab w') (h : StrSl w' eo (proofS xs j ++ [r])) => Verify_all r xs[j] k j eo c (proofS xs j ++ [r]) w' T' (by omega) h (by simp; omega) (by omega))
        rw [verifyS_long (by simp; omega)] at CV1
        have CV2 := Lib.hid (fun eo c w' (T' : Tab w') (h : StrSl w' eo (proofS xs j).tail) => Verify_all r xs[j] k j eo c (proofS xs j).tail w' T' (by omega) h (by simp; omega) (by omega))
        rw [HN.out] at CE
        have HSL := Lib.hid hsl
        have d3 : decide (j < k) = true := by simpa using hj
        generalize hPP : proofS xs j = P at *
        generalize xs[j] = x at *
        have d5 : decide ((0 : Int) ≤ j) = true := by simp
        clear hin hi hjx hpl hsl hbl hPP
        go_wp2_with fail
        with_reducible refine Calls.mono (CE.out _ HT.out HX.out) ?_
        rintro e w5 ⟨eo, rfl, hE, hb⟩
        replace HT := Lib.hid (HT.out.next hb)
        replace HX := Lib.hid (HX.out.next hb)
        replace BB := Lib.hid (Below.andThen BB.out hb)
        have HE := Lib.hid hE; clear hE
        clear hb
        go_wp2_with fail
        have c1 := sl_cell HX.out HXK.out
        have c2 : w5.drew.cell? ⟨g, j, none⟩ = some (.string x) := c1
        have hgl := sl_lt HX.out HXK.out
        have c3 : ∀ ob, (w5.alloc ob).drew.cell? ⟨g, j, none⟩ = some (.string x) := fun ob => (World.cell?_alloc_past ob g j hgl).trans c1
        have c4 : ∀ ob ob', ((w5.alloc ob).alloc ob').drew.cell? ⟨g, j, none⟩ = some (.string x) := fun ob ob' => (World.cell?_alloc_past ob' g j (show g < (w5.alloc ob).heap.size by simp; omega)).trans ((World.cell?_alloc_past ob g j hgl).trans c1)
        obtain ⟨M, hM⟩ : ∃ M, (P ++ [r]).length = M := ⟨_, rfl⟩
        obtain ⟨PL, hPL⟩ : ∃ PL, P.length = PL := ⟨_, rfl⟩
        have HM := Lib.hid hM
        have HPL := Lib.hid hPL
        have HRR := Lib.hid (show ([] : List ByteArray) ++ P ++ [r] = P ++ [r] from rfl)
        rw [hM] at CV1
        rw [List.length_tail, hPL] at CV2
        rw [hPL] at hP ⊢
        have hBs : w5.heap.size ≤ w5.heap.size := Nat.le_refl _
        clear hM hPL CE
        go_upto_region 16 with (fail)
        go_cut [13] (fun v wx => v = .bool false ∧ Below w5.heap.size w5 wx)
        case first =>
          go_region_law (first
            | (refine step_append_strs rfl (.tmp 105) (.tmp 106) rfl rfl w5.heap.size (.slice (some ⟨_, 0, none⟩) 0 0) [] rfl (by first | exact made_own _ (by simp) rfl | exact made_own _ (by simp) (by simp) | exact (made_own w5.drew (by simp) rfl).next ((Below.refl _ _).alloc (Nat.le_refl _) _)) eo PL P rfl HPL.out (HE.out.next (by (repeat' first | exact Below.refl _ _ | assumption | (refine below_drewN ?_ _) | (refine Below.drew ?_) | (refine Below.alloc ?_ ?_ _) | (refine Below.setCell ?_ ?_ _) | (simp; done) | (simp; omega) | omega))) (by simp; omega) (by first | (simp; done) | (simp; omega)) ?_; intro v' wa hown' hgrow; have K1 := Lib.hid hown'; have hbw : Below w5.heap.size w5 wa := Below.grown (by (repeat' first | exact Below.refl _ _ | assumption | (refine below_drewN ?_ _) | (refine Below.drew ?_) | (refine Below.alloc ?_ ?_ _) | (refine Below.setCell ?_ ?_ _) | (simp; done) | (simp; omega) | omega)) hgrow (by first | (simp; done) | (simp; omega)) (fun k hk => by simp [Value.ownBlock] at hk; omega); have ca := (hbw.cell (p := ⟨g, j, none⟩) (sl_lt HX.out HXK.out)).trans c1; have hga : g < wa.heap.size := Nat.lt_of_lt_of_le hgl hbw.size; (first | (have RB := Lib.hid (row_one (row_grown ((row_new w5.drew [.string r] 9 rfl).alloc _) hgrow (by simp [Value.ownBlock])))) | (have RB := Lib.hid (row_one (row_grown (row_new (w5.drew.alloc _) [.string r] 9 (n := w5.heap.size + 1) (by simp)) hgrow (by simp [Value.ownBlock])))) | skip); have HBW := Lib.hid hbw; clear hown' hgrow hbw)
            | (refine step_append_strs rfl (.tmp 107) (.tmp 109) rfl rfl w5.heap.size v' ([] ++ P) rfl (by first | exact K1.out | exact K1.out.next ((Below.refl _ _).alloc (Nat.le_refl _) _)) _ 1 [r] rfl rfl (by first | exact RB.out | exact row_one (row_new _ _ _ rfl)) (by rw [List.nil_append, HPL.out]; omega) (by have := HBW.out.size; first | (simp; done) | (simp; omega)) ?_; intro v'' wb hown' hgrow; have hbw : Below w5.heap.size w5 wb := Below.grown (by (repeat' first | exact Below.refl _ _ | assumption | (refine Below.andThen ?_ HBW.out) | (exact HBW.out.size) | (refine below_drewN ?_ _) | (refine Below.drew ?_) | (refine Below.alloc ?_ ?_ _) | (refine Below.setCell ?_ ?_ _) | (simp; done) | (simp; omega) | omega)) hgrow (by have := HBW.out.size; first | (simp; done) | (simp; omega)) (own_block K1.out); rw [HRR.out] at hown'; obtain ⟨o2, c2, hv2, _, _, _⟩ := hown'.form; rw [HM.out] at hv2; subst hv2; have K2 := Lib.hid (show OwnS wb w5.heap.size (.slice o2 (P ++ [r]).length c2) (P ++ [r]) by rw [HM.out]; exact hown'); have HBV := Lib.hid hbw; have cb := (hbw.cell (p := ⟨g, j, none⟩) (sl_lt HX.out HXK.out)).trans c1; clear hown' hgrow hbw)
            | (go_simp; go_at_call 29; with_reducible refine Calls.mono (CV1.out _ _ _ (HT.out.next HBV.out) K2.out.sl) ?_; rintro e wx ⟨rfl, hb⟩; have HBX := Lib.hid (Below.andThen HBV.out hb); clear hb))
          all_goals (go_simp; go_wp2_with fail; go_meet; exact ⟨rfl, HBX.out⟩)
        obtain ⟨rfl, hb⟩ := hcut
        replace HT := Lib.hid (HT.out.next hb)
        replace HE := Lib.hid (HE.out.next hb)
        replace BB := Lib.hid (Below.andThen BB.out hb)
        have c5 : wc.cell? ⟨g, j, none⟩ = some (.string x) := (hb.cell (p := ⟨g, j, none⟩) hgl).trans c1
        have c6 : wc.drew.cell? ⟨g, j, none⟩ = some (.string x) := c5
        have hgc : g < wc.heap.size := Nat.lt_of_lt_of_le hgl hb.size
        clear hb c1 c2 c3 c4 hgl CV1
        by_cases hp : 0 < PL
        · have d6 : decide ((0 : Int) < PL) = true := by simpa using hp
          rw [verifyS_long (by rw [List.length_tail, HPL.out, Int.toNat_natCast, Int.toNat_natCast, ← HSL.out, HPL.out]; omega)] at CV2
          by_cases hp1 : PL = 1
          · subst hp1
            have hE1 : ∃ a, eo = some a := by
              rcases HE.out with h | ⟨b, off, h, _⟩
              · rw [h] at HPL; have := HPL.out; simp at this
              · exact ⟨_, h⟩
            obtain ⟨a, rfl⟩ := hE1
            have hPt : P.tail = [] := by
              apply List.eq_nil_of_length_eq_zero
              rw [List.length_tail, HPL.out]
            rw [Nat.sub_self] at CV2
            have CV3 := Lib.hid (fun eo c w' T' => CV2.out eo c w' T' (.inl hPt))
            have D0 := Lib.hid (fun (k : Kin wc) => CV3.out (some a) 0 k.it (HT.out.next k.below))
            go_wp2_with fail
            refine wp_region_kin (by kernel_rfl) (by kernel_rfl) wc.heap.size 0 (by simp) (fun hk => ?_)
            repeat (go_big_quiet_step (first | (go_at_call 29; with_reducible exact Calls.kin (D0.out _))))
            refine wpQuiet_nil ?_
            clear hk
            intro w10 hb
            have HB2 := Lib.hid (Below.andThen BB.out hb)
            clear hb
            go_wp2_with fail
            go_ret
            exact ⟨rfl, HB2.out⟩
          · have hE1 : ∃ b off, eo = some ⟨b, off, none⟩ := by
              rcases HE.out with h | ⟨b, off, h, _⟩
              · rw [h] at HPL; have := HPL.out; simp at this; omega
              · exact ⟨_, _, h⟩
            obtain ⟨b, off, rfl⟩ := hE1
            have HS := Lib.hid (drop_sl 1 HE.out)
            rw [← List.drop_one] at CV2
            have f1 : 1 ≤ PL := hp
            have f2 : ¬ PL = 1 := hp1
            have D0 := Lib.hid (fun (k : Kin wc) => CV2.out _ (PL - 1) k.it (HT.out.next k.below) (HS.out.next k.below))
            go_wp2_with fail
            refine wp_region_kin (by kernel_rfl) (by kernel_rfl) wc.heap.size 0 (by simp) (fun hk => ?_)
            repeat (go_big_quiet_step (first | (go_at_call 29; with_reducible exact Calls.kin (D0.out _))))
            refine wpQuiet_nil ?_
            clear hk
            intro w10 hb
            have HB2 := Lib.hid (Below.andThen BB.out hb)
            clear hb
            go_wp2_with fail
            go_ret
            exact ⟨rfl, HB2.out⟩
        · obtain rfl : PL = 0 := by omega
          go_wp2_with fail
          refine wp_region_kin (by kernel_rfl) (by kernel_rfl) wc.heap.size 0 (by simp) (fun hk => ?_)
          repeat (go_big_quiet_step (first | (go_at_call 29; with_reducible exact Calls.kin (D0.out _))))
          refine wpQuiet_nil ?_
          clear hk
          intro w10 hb
          have HB2 := Lib.hid (Below.andThen BB.out hb)
          clear hb
          go_wp2_with fail
          go_ret
          exact ⟨rfl, HB2.out⟩
      · have CE := Lib.hid (fun w' => Proof_out vo k vc i w' (by omega))
        have CV := Lib.hid (fun w' (T' : Tab w') => Verify_all r ⟨#[]⟩ k i none 0 [] w' T' (by omega) (.inl rfl) (by simp) (by decide))
        have e : verifyS r k i ⟨#[]⟩ [] = false := by
          unfold verifyS
          by_cases h : 0 ≤ i
          · rw [decide_eq_false (show ¬ i < (k : Int) by omega)]; simp
          · rw [decide_eq_false h]; rfl
        rw [e] at CV
        clear e
        by_cases h0 : 0 ≤ i
        · have d3 : decide (0 ≤ i) = true := by simpa using h0
          have d4 : decide (i < (k : Int)) = false := by simp; omega
          clear hin h0
          go_wp2_with fail
          with_reducible refine Calls.mono (CE.out _) ?_
          rintro e w5 ⟨rfl, rfl⟩
          go_wp2_with fail
          with_reducible refine Calls.mono (CV.out _ HT.out) ?_
          rintro e w6 ⟨rfl, hb⟩
          replace HT := Lib.hid (HT.out.next hb)
          replace HX := Lib.hid (HX.out.next hb)
          replace BB := Lib.hid (Below.andThen BB.out hb)
          clear hb
          go_wp2_with fail
          go_ret
          exact ⟨rfl, BB.out⟩
        · have d3 : decide (0 ≤ i) = false := by simpa using h0
          clear hin h0
          go_wp2_with fail
          with_reducible refine Calls.mono (CE.out _) ?_
          rintro e w5 ⟨rfl, rfl⟩
          go_wp2_with fail
          with_reducible refine Calls.mono (CV.out _ HT.out) ?_
          rintro e w6 ⟨rfl, hb⟩
          replace HT := Lib.hid (HT.out.next hb)
          replace HX := Lib.hid (HX.out.next hb)
          replace BB := Lib.hid (Below.andThen BB.out hb)
          clear hb
          go_wp2_with fail
          go_ret
          exact ⟨rfl, BB.out⟩

theorem digestProof_law (o : Option Addr) (n c : Nat) (S : Nat → ByteArray) (i : Int) (w : World) (T : Tab w) (hn : n ≤ maxLen) (hs : ∀ i, i < n → (S i).size ≤ maxLen)
    (hcell : ∀ i, i < n → ∃ a, o = some a ∧ ∀ w', Below w.heap.size w w' → w'.cell? (a.add i) = some (.string (S i))) (hi : -9223372036854775808 ≤ i ∧ i ≤ 9223372036854775807) :
    Calls Tryd.prog 6 #[.slice o n c, .int .i64 i] w fun r w' => r = .returned (.bool true) ∧ Below w.heap.size w w' := digestProof_all o n c S i w T hn hs hcell hi
namespace digestProofAccepted
set_option maxRecDepth 100000 in
theorem contract (H : Type) (enc : TypeId × Value → H) (W : World) (base : Nat) (args : Array Value) (ds gs : List (DataW H)) (before : List MemPlace)
    (hval : ∀ (j : Nat) t v, Tryd.f6.params[j]? = some t → args[j]? = some v → Value.okWide Tryd.prog W .any base t v)
    (hW : DataW.Whole enc Tryd.prog Tryd.f6.params.toList Rows.digestProofAcceptedSpec.vars false W args.toList ds gs before) (hL : laidMetH Tryd.prog Rows.digestProofAcceptedRow.laid W) :
    Calls Tryd.prog 6 args W fun e W' => ∃ v, e = .returned v ∧ Rows.digestProofAcceptedSpec.post enc Tryd.prog Tryd.f6 false true false false W args v W' := by
  have hW' := hW
  obtain ⟨p, q, hA0, hV, rfl, hfz, hnd⟩ := hW
  have hA : DataW.TrodAll enc Tryd.prog W 0 (fun _ => true) true Tryd.f6.params.toList args.toList ds p := hA0
  rw [Tryd.params6] at hA hval
  obtain ⟨v0, vs0, d0, ds0, p0, q0, hargs, rfl, rfl, h0, r0⟩ := trodAll_cons hA
  obtain ⟨v1, vs1, d1, ds1, p1, q1, rfl, rfl, rfl, h1, r1⟩ := trodAll_cons r0
  obtain ⟨rfl, rfl, rfl⟩ := trodAll_nil r1
  obtain rfl : args = #[v0, v1] := by cases args; simp_all
  obtain ⟨oa0, la0, ca0, a0, rfl, ma0, k0, ga0⟩ := open_strS Tryd.underlying26 Tryd.underlying9 (by kernel_rfl) (hval 0 _ _ rfl rfl) h0
  obtain ⟨a1, rfl, rfl, rfl, k1⟩ := open_int Tryd.underlying3 (hval 1 _ _ rfl rfl) h1
  refine (digestProof_law oa0 la0 ca0 a0 a1 W (tab hL) ma0 k0 ga0 (bd_i64 k1)).mono fun e W' ⟨he, hb⟩ => ?_
  subst he
  obtain ⟨rfl, _⟩ := trodVars_none hV
  exact ⟨_, rfl, law_post laidOut (by kernel_rfl) rfl (by kernel_rfl) Tryd.underlying4 hW' rfl hb⟩

def args0 : Array Value := #[.slice none 0 0, .int .i64 0]
theorem laid_met (os : Os) : laidMet Tryd.prog Rows.digestProofAcceptedRow.laid ((laidWorld os).forCall (fun _ _ => 0) ⟨#[], args0, []⟩).memory :=
  laidMet_of_run' 8 (by kernel_rfl) (by kernel_rfl)
theorem reads (os : Os) {H : Type} (enc : TypeId × Value → H) : ∃ places, DataW.whole enc Tryd.prog ((laidWorld os).forCall (fun _ _ => 0) ⟨#[], args0, []⟩).memory Tryd.f6.params.toList Rows.digestProofAcceptedSpec.vars false args0.toList 8 = some ([.nil, .lit (.int .i64 0)], [], places) :=
  ⟨[], by kernel_rfl⟩

set_option maxRecDepth 100000 in
theorem lifted (os : Os) (started : os.Started) (H : Type) (enc : TypeId × Value → H) (F : Stop.Interp) :
    ReturnsInHanded {} Tryd.checked os 6 .any ((OpenSpec.ofChange Rows.digestProofAcceptedSpec).preRow enc Tryd.prog Tryd.f6 Rows.digestProofAcceptedRow.domain false Rows.digestProofAcceptedRow.laid) (((OpenSpec.ofChange Rows.digestProofAcceptedSpec).at F).post enc Tryd.prog Tryd.f6 false true false false) := by
  obtain ⟨places, hx⟩ := reads os enc
  refine returnsInHanded_of_row (C := Tryd.checked) (s := OpenSpec.ofChange Rows.digestProofAcceptedSpec) own started (by kernel_rfl) Tryd.func6
    (witness_row_at (enc := enc) (C := Tryd.checked) false (laidWorld os) args0 rfl (by kernel_rfl) (by kernel_rfl) (by kernel_rfl)
      (OpenSpec.preRow_of_cond 8 hx (by kernel_rfl) (fun k hk => by cases hk) (by kernel_rfl) (laid_met os))) ?_
  intro W base args ds gs before hval hW _ _ _ hL _ _
  exact contract H enc W base args ds gs before hval hW hL

theorem said : Rows.DigestProofAcceptedSaid :=
  OpenClaim.holds_of_cond 6 Tryd.f6 rfl rfl rfl rfl rfl rfl rfl ⟨rfl, rfl, rfl, rfl, rfl⟩ rfl rfl rfl rfl rfl (by kernel_rfl) Tryd.func6 (by kernel_rfl)
    (of_decide_eq_true (by kernel_rfl)) (by unfold Func.isWrapper; first | (rw [if_pos (by decide +kernel)]; kernel_rfl) | (rw [if_neg (by decide +kernel)]; exact ⟨rfl, rfl⟩))
    (fun os started H enc _ F => by rw [OpenClaim.pre_eq_preRow]; exact lifted os started H enc F)

theorem plain (f : FuncId) (fn : Func) (hf : Tryd.pinned.checked.prog.funcNamed "newswire/newswirelaw02.DigestProofAccepted" = some f) (hfn : Tryd.pinned.checked.prog.funcs[f]? = some fn) :
    false = Tryd.pinned.checked.prog.looks [] ∧ ∀ (j : Nat) t, fn.params[j]? = some t → Tryd.pinned.checked.prog.wantsStandIn t = false := by
  obtain rfl : f = 6 := Option.some.inj ((show Tryd.prog.funcNamed "newswire/newswirelaw02.DigestProofAccepted" = some 6 by kernel_rfl).symm.trans hf) |>.symm
  obtain rfl : fn = Tryd.f6 := (Option.some.inj (Tryd.func6.symm.trans hfn)).symm
  refine ⟨by kernel_rfl, fun j t ht => ?_⟩
  have all : (Tryd.f6.params.toList.all fun t => Tryd.prog.wantsStandIn t == false) = true := by kernel_rfl
  have := List.all_eq_true.1 all t (by rw [← Array.mem_def]; exact Array.mem_of_getElem? ht)
  exact (show Tryd.prog.wantsStandIn t = false by simpa using this)

/-- The statement. -/
theorem card : Rows.DigestProofAcceptedCardSaid :=
  Claim7.holds_tied_plain_at .later [] _ _ _ _ said (fun _ h => by cases h) (by kernel_rfl) (fun _ h => by cases h) digestProofAccepted_row_tie rfl ⟨rfl, rfl⟩ (by kernel_rfl) rfl plain (by kernel_rfl)
end digestProofAccepted
end Go.Proofs.YtojfblkmhdgjeaaDoor
