/- WordReadsMatchReference holds for every input: Number and Prefix agree with the reference implementation on the words of two numbers, of which one is left out or replaced, and on arbitrary words. The tables are as the program's text lays them. -/
import Derived.Test.YtebdpdmkehfgfaaDoorWoRP
import Derived.Test.YtebdpdmkehfgfaaDoorWoFr
import Derived.Deep.CutBlock
set_option linter.unusedVariables false
set_option linter.unusedSimpArgs false
namespace Go.Proofs.YtebdpdmkehfgfaaDoor
open Go.RowKit Go.ChangeShapes Go.WideShapes Go.ChangeAt
open Wo in
set_option maxRecDepth 100000 in
set_option maxHeartbeats 16000000 in
theorem wordReads_law (x0 n0 m0 h0 a0 : Int) (s : ByteArray) (o1 : Option Addr) (n1 c1 : Nat) (S1 : Nat → ByteArray) (w : World) (T : Wo.Tab w) (hx : -9223372036854775808 ≤ x0 ∧ x0 ≤ 9223372036854775807) (hn0 : -9223372036854775808 ≤ n0 ∧ n0 ≤ 9223372036854775807)
    (hm0 : -9223372036854775808 ≤ m0 ∧ m0 ≤ 9223372036854775807) (hh0 : -9223372036854775808 ≤ h0 ∧ h0 ≤ 9223372036854775807) (ha0 : -9223372036854775808 ≤ a0 ∧ a0 ≤ 9223372036854775807) (hs : s.size ≤ maxLen)
    (hn1 : n1 ≤ maxLen) (hs1 : ∀ i, i < n1 → (S1 i).size ≤ maxLen) (hcell1 : ∀ i, i < n1 → ∃ a, o1 = some a ∧ ∀ w', Below w.heap.size w w' → w'.cell? (a.add i) = some (.string (S1 i))) :
    Calls Tryd.prog 4 #[.int .i64 x0, .int .i64 n0, .int .i64 m0, .int .i64 h0, .int .i64 a0, .string s, .slice o1 n1 c1] w fun e w' => e = .returned (.bool true) ∧ Below w.heap.size w w' := by
  obtain ⟨k, hk, PK⟩ := pick_k x0 3 3 rfl (by decide) hx
  obtain ⟨p, hp6, PN⟩ := pick_k n0 1000000 1000000 rfl (by decide) hn0
  obtain ⟨q, hq6, PM⟩ := pick_k m0 1000000 1000000 rfl (by decide) hm0
  obtain ⟨d, hd4, PH⟩ := pick_k h0 4 4 rfl (by decide) hh0
  have LA := Lib.hid (words_len k hp6)
  have LB := Lib.hid (words_len k hq6)
  have WA := Lib.hid (words_small k hp6)
  have WB := Lib.hid (words_small k hq6)
  obtain ⟨NZ, hNZ⟩ : ∃ NZ, (words k p).length + (words k q).length = NZ := ⟨_, rfl⟩
  have HNZ := Lib.hid hNZ
  have hNZ0 : 0 < NZ := by have := LA.out.1; omega
  have hNZ9 : NZ ≤ 40 := by have := LA.out.2; have := LB.out.2; omega
  obtain ⟨i, hiN, PA⟩ := pick_k a0 NZ NZ rfl hNZ0 ha0
  have HPK := Lib.hid PK
  have HPN := Lib.hid PN
  have HPM := Lib.hid PM
  have HPH := Lib.hid PH
  have HPA := Lib.hid PA
  have HT := Lib.hid T
  have BB := Lib.hid (Below.refl w.heap.size w)
  have CF := Lib.hid (fun w' (hb : Below w.heap.size w w') => few_any o1 n1 c1 S1 w' hn1 hs1 (fun i hi => by
    obtain ⟨a, e, h⟩ := hcell1 i hi
    exact ⟨a, e, fun w2 hb2 => h w2 (Below.andThen hb hb2)⟩))
  have CA := Lib.hid (fun L hL W => rWords_k k L p p hk hL rfl hp6 W)
  have CB := Lib.hid (fun L hL W => rWords_k k L q q hk hL rfl hq6 W)
  have CN := Lib.hid num_g
  have CP := Lib.hid pre_g
  obtain ⟨X, hX⟩ : ∃ X, X = fewL S1 (min n1 10) := ⟨_, rfl⟩
  have XL := Lib.hid (show X.length ≤ 10 by rw [hX, fewL_length]; omega)
  have XZ := Lib.hid (show ∀ s ∈ X, s.length ≤ 60 by rw [hX]; exact fewL_small _ _)
  rw [← hX] at CF
  have hx60 : s.extract 0 (min (s.size : Int) 60).toNat = bs (cutB s) := cut_bs s
  have m1 : 0 ≤ min (s.size : Int) 60 := by omega
  have m2 : min (s.size : Int) 60 ≤ (s.size : Int) := by omega
  have HCB := Lib.hid (cutB_len s)
  generalize cutB s = cb at *
  generalize words k p = A at *
  generalize words k q = B' at *
  have HD4 := Lib.hid hd4
  have HX0 := Lib.hid hx.2
  have HA0 := Lib.hid ha0.2
  clear T PK PN PM PH PA hcell1 hs1 hx hn0 hm0 hh0 ha0 hX hNZ hn1 hd4
  go_enter Tryd.func4, Tryd.ntmps4
  go_wp2_with fail
  with_reducible refine Calls.mono (sane_any _ HT.out) ?_
  rintro e w1 ⟨rfl, hb⟩
  replace HT := Lib.hid (HT.out.next hb)
  replace BB := Lib.hid (Below.andThen BB.out hb)
  clear hb
  go_wp2_with fail
  with_reducible refine Calls.mono (HPK.out _) ?_
  rintro e w' ⟨rfl, rfl⟩
  go_wp2_with fail
  with_reducible refine Calls.mono (HPN.out _) ?_
  rintro e w' ⟨rfl, rfl⟩
  go_wp2_with fail
  with_reducible refine Calls.mono (CA.out _ (by rfl) _) ?_
  rintro e w2 ⟨v, rfl, ho, hb⟩
  replace HT := Lib.hid (HT.out.next hb)
  replace BB := Lib.hid (Below.andThen BB.out hb)
  have VA := Lib.hid ho; obtain ⟨oA, cA, rfl, -, -, ncA, hsl⟩ := ho; have SA := Lib.hid hsl; clear hsl
  clear hb
  go_wp2_with fail
  with_reducible refine Calls.mono (HPM.out _) ?_
  rintro e w' ⟨rfl, rfl⟩
  go_wp2_with fail
  with_reducible refine Calls.mono (CB.out _ (by rfl) _) ?_
  rintro e w3 ⟨v, rfl, ho, hb⟩
  replace HT := Lib.hid (HT.out.next hb)
  replace SA := Lib.hid (SA.out.next hb)
  replace VA := Lib.hid (VA.out.next hb)
  replace BB := Lib.hid (Below.andThen BB.out hb)
  obtain ⟨oB, cB, rfl, -, -, ncB, hsl⟩ := ho; have SB := Lib.hid hsl; clear hsl
  clear hb
  go_upto_region 9 with (fail)
  have LA1 := LA.out
  have LB1 := LB.out
  go_upto_region 10 with (at_builtin; first
      | (refine wpList_append_strs rfl _ _ rfl rfl w3.heap.size (.slice (some ⟨w3.heap.size, 0, none⟩) 0 0) [] rfl (made_own w3 [] (Nat.le_refl _) rfl rfl (by decide)) oA A.length cA A rfl rfl ncA (SA.out.next ((Below.refl _ _).alloc (Nat.le_refl _) _)) (by simp; omega) (by simp) ?_; intro V1 w6 ho hg; have HO := Lib.hid ho; have HB6 := Lib.hid (grown_below (Below.refl w3.heap.size w3) hg (made_own w3 [] (Nat.le_refl _) rfl rfl (by decide)).block); clear ho hg)
      | (refine wpList_append_strs rfl _ _ rfl rfl w3.heap.size V1 ([] ++ A) rfl HO.out oB B'.length cB B' rfl rfl ncB (SB.out.next HB6.out) (by simp; omega) HB6.out.size ?_; intro V2 w7 ho hg; have HO2 := Lib.hid ho; have HB7 := Lib.hid (HB6.out.grown hg HB6.out.size HO.out.block); clear ho hg))
  obtain ⟨Z, hZ⟩ : ∃ Z, [] ++ A ++ B' = Z := ⟨_, rfl⟩
  rw [hZ] at HO2
  have hZ2 : A ++ B' = Z := by rw [← hZ]; simp
  have hZn : Z.length = NZ := by rw [← hZ2, List.length_append, HNZ.out]
  have ZS := Lib.hid (show ∀ s ∈ Z, s.length ≤ 100 from by
    intro s hs
    rw [← hZ2] at hs
    rcases List.mem_append.1 hs with h | h
    · exact WA.out s h
    · exact WB.out s h)
  obtain ⟨zk, hzk⟩ : ∃ zk, Z.length = zk + 1 := ⟨Z.length - 1, by omega⟩
  have hown := HO2.out
  obtain ⟨gZ, cZ, rfl, hg0, hgl, -⟩ := hown.some hzk
  obtain ⟨o8, c8, e8, hc1, hc2, -, hsl⟩ := hown.form
  obtain ⟨e81, -, e83⟩ := Value.slice.inj e8
  subst e81
  subst e83
  rw [show zk + 1 = NZ by omega] at HO2 ⊢
  have ZN := Lib.hid hZn
  have SZ := Lib.hid hsl
  have hcap : NZ ≤ cZ := by omega
  have HG0 := Lib.hid hg0
  have HC2 := Lib.hid hc2
  have lg := hgl
  have GA := Lib.hid (VA.out.gd (by omega) (fun s hs => by have := WA.out s hs; omega))
  have GZ := Lib.hid (HO2.out.gd (by rw [hZn]; omega) (fun s hs => by have := ZS.out s hs; omega))
  clear hown hsl hZ hZ2 HO hc1 hzk hZn SA SB HB6 ncA ncB hg0 hgl LA1 LB1 VA
  go_wp2_with fail
  with_reducible refine Calls.mono (HPA.out _) ?_
  rintro e w' ⟨rfl, rfl⟩
  go_wp2_with fail
  with_reducible refine Calls.mono (HPH.out _) ?_
  rintro e w' ⟨rfl, rfl⟩
  go_upto_block 0 with (fail)
  go_cut [21] (fun v wx => ∃ l, Gd wx v l ∧ Below w3.heap.size w3 wx)
  case first =>
    rcases (show d = 0 ∨ d = 1 ∨ (d ≠ 0 ∧ d ≠ 1) by omega) with rfl | rfl | ⟨hd0, hd1⟩
    · rw [show ((0 : Nat) : Int) = 0 from rfl]
      have hw1 : IntKind.i64.wrap ((i : Int) + 1) = i + 1 := by rw [IntKind.wrap_i64]; omega
      have q1 : (i : Int) + 1 ≤ NZ := by omega
      have q2 : (i : Int) ≤ cZ := by omega
      have q4 : (i : Int) ≤ i + 1 := by omega
      have q0 : (0 : Int) ≤ i + 1 := by omega
      have HS1 := Lib.hid (SZ.out.take i)
      have HS2 := Lib.hid (show SSl w7 (some ⟨gZ, i + 1, none⟩) (Z.drop (i + 1)) from by have h := SZ.out.drop (i + 1); rw [Nat.zero_add] at h; exact h)
      have HL1 := Lib.hid (show (Z.take i).length = i by rw [List.length_take, ZN.out]; omega)
      have HL2 := Lib.hid (show (Z.drop (i + 1)).length = NZ - (i + 1) by rw [List.length_drop, ZN.out])
      have HM := Lib.hid (show ∀ s ∈ Z.take i ++ Z.drop (i + 1), s.length ≤ 1000 from fun s h => by
        rcases List.mem_append.1 h with h | h
        · have := ZS.out s (List.mem_of_mem_take h); omega
        · have := ZS.out s (List.mem_of_mem_drop h); omega)
      have HLM := Lib.hid (show (Z.take i ++ Z.drop (i + 1)).length ≤ 1000 by rw [List.length_append, HL1.out, HL2.out]; omega)
      generalize Z.take i = Z1 at *
      generalize Z.drop (i + 1) = Z2 at *
      by_cases hcz : cZ = i + 1
      · have hz2 : Z2 = [] := List.eq_nil_of_length_eq_zero (by rw [HL2.out]; omega)
        subst hz2
        go_upto_region 13 with (fail)
        refine wp_region_kin_tail 8 (by kernel_rfl) (by kernel_rfl) w7.heap.size 0 (by simp) (fun hk => ?_)
        simp only [List.take_succ_cons, List.take_zero, List.drop_succ_cons, List.drop_zero]
        repeat (go_big_quiet_step (fail))
        refine wpQuiet_nil ?_
        clear hk
        intro W2 hb
        have HK := Lib.hid hb
        clear hb
        go_wp2_with (at_builtin; refine wpList_append_clip rfl _ _ rfl rfl gZ i Z1 rfl HL1.out (HS1.out.next HK.out) _ _ _ [] rfl HL2.out (.inl rfl) (by omega) ?_; intro v' w' hv hb; have HV := Lib.hid (And.intro hv hb); clear hv hb)
        go_meet
        exact ⟨_, HV.out.1.gd HLM.out HM.out, Below.andThen (Below.andThen HB7.out HK.out) HV.out.2⟩
      · have q3 : ¬ (cZ : Int) = i + 1 := by omega
        go_upto_region 13 with (fail)
        refine wp_region_kin_tail 8 (by kernel_rfl) (by kernel_rfl) w7.heap.size 0 (by simp) (fun hk => ?_)
        simp only [List.take_succ_cons, List.take_zero, List.drop_succ_cons, List.drop_zero]
        repeat (go_big_quiet_step (fail))
        refine wpQuiet_nil ?_
        clear hk
        intro W2 hb
        have HK := Lib.hid hb
        clear hb
        go_wp2_with (at_builtin; refine wpList_append_clip rfl _ _ rfl rfl gZ i Z1 rfl HL1.out (HS1.out.next HK.out) (some ⟨gZ, i + 1, none⟩) (NZ - (i + 1)) (cZ - (i + 1)) Z2 rfl HL2.out (HS2.out.next HK.out) (by omega) ?_; intro v' w' hv hb; have HV := Lib.hid (And.intro hv hb); clear hv hb)
        go_meet
        exact ⟨_, HV.out.1.gd HLM.out HM.out, Below.andThen (Below.andThen HB7.out HK.out) HV.out.2⟩
    · rw [show ((1 : Nat) : Int) = 1 from rfl]
      obtain ⟨⟨v0, hv0⟩, hfz, -⟩ := ownS_at HO2.out hiN
      have HG := Lib.hid (show Gd (w7.setCell ⟨gZ, i, none⟩ (sV cb)) (.slice (some ⟨gZ, 0, none⟩) NZ cZ) (Z.set i cb) from
        ⟨_, NZ, cZ, rfl, by rw [List.length_set, ZN.out], by omega, hcap, HC2.out, fun s hs => by
          rcases List.mem_or_eq_of_mem_set hs with h | rfl
          · have := ZS.out s h; omega
          · have := HCB.out; omega, ownS_store HO2.out i cb⟩)
      go_wp2_with fail
      go_meet
      exact ⟨_, HG.out, HB7.out.setCell (p := ⟨gZ, i, none⟩) HG0.out _⟩
    · have e0 : ¬ (d : Int) = 0 := by omega
      have e1 : ¬ (d : Int) = 1 := by omega
      go_wp2_with fail
      go_meet
      exact ⟨Z, GZ.out, HB7.out⟩
  obtain ⟨l1, hG1, hB1⟩ := hcut
  rename World => w8
  have G1 := Lib.hid hG1
  obtain ⟨oq, nq, cq, rfl, -⟩ := hG1
  replace HT := Lib.hid (HT.out.next hB1)
  replace GA := Lib.hid (GA.out.next hB1)
  replace BB := Lib.hid (Below.andThen BB.out hB1)
  clear hB1 hx60 m1 m2 hcap HG0 lg GZ SZ HO2 HB7
  go_wp2_with fail
  with_reducible refine Calls.mono (CF.out _ BB.out) ?_
  rintro e w9 ⟨v, rfl, ho, hb⟩
  replace HT := Lib.hid (HT.out.next hb)
  replace G1 := Lib.hid (G1.out.next hb)
  replace GA := Lib.hid (GA.out.next hb)
  replace BB := Lib.hid (Below.andThen BB.out hb)
  have GX := Lib.hid (ho.gd (by have := XL.out; omega) (fun s hs => by have := XZ.out s hs; omega)); obtain ⟨ox, cx, rfl, -⟩ := ho.form; clear ho
  clear hb
  go_upto_region 17 with (fail)
  refine wp_named fun w10 hq => ?_
  obtain ⟨b1, eb1⟩ : ∃ b, b = w9.heap.size := ⟨_, rfl⟩
  have R3 := Lib.hid (show Three w10 b1 by rw [hq, eb1]; exact three_new w9 _ _ _ _ GA.out G1.out GX.out)
  have hb : Below w9.heap.size w9 w10 := by rw [hq]; exact (Below.refl _ _).alloc (Nat.le_refl _) _
  replace HT := Lib.hid (HT.out.next hb)
  replace BB := Lib.hid (Below.andThen BB.out hb)
  rw [← eb1]
  clear hq hb eb1 GA G1 GX
  go_loopw [103] (fun jv wr => ∃ j : Nat, jv = .int .i64 j ∧ j ≤ 3 ∧ Below w10.heap.size w10 wr) (fun jv _ => 3 - (intOf jv).toNat)
  case atStart => exact ⟨0, rfl, by decide, Below.refl _ _⟩
  case round =>
    obtain ⟨j, rfl, hj, hB⟩ := hrel
    rename World => wr1
    replace HT := Lib.hid (HT.out.next hB)
    replace R3 := Lib.hid (R3.out.next hB)
    replace BB := Lib.hid (Below.andThen BB.out hB)
    have S1 := Lib.hid (show SinceW w10 wr1 from hB)
    clear hB
    by_cases hlt : j < 3
    · obtain ⟨v, l, hc, hg⟩ := R3.out.2 j hlt
      have lb := R3.out.1
      have d1 : decide ((j : Int) < 3) = true := by simp; omega
      have G := Lib.hid hg
      clear hg
      go_upto_region 20 with (fail)
      clear hc lb
      refine wp_named fun w11 hq => ?_
      obtain ⟨b2, eb2⟩ : ∃ b, b = wr1.heap.size := ⟨_, rfl⟩
      have R2 := Lib.hid (show Nums 2 w11 b2 by rw [hq, eb2]; exact nums_new wr1 _ [x0, 1 + (k : Int)] (by intro y hy; simp at hy; have := HX0.out; omega))
      have hb : Below wr1.heap.size wr1 w11 := by rw [hq]; exact (Below.refl _ _).alloc (Nat.le_refl _) _
      replace HT := Lib.hid (HT.out.next hb)
      replace S1 := Lib.hid (S1.out.next hb)
      replace G := Lib.hid (G.out.next hb)
      replace BB := Lib.hid (Below.andThen BB.out hb)
      clear hb
      rw [← eb2]
      clear hq eb2
      go_loopw [111] (fun jv wr => ∃ j : Nat, jv = .int .i64 j ∧ j ≤ 2 ∧ Below w11.heap.size w11 wr) (fun jv _ => 2 - (intOf jv).toNat)
      case atStart => exact ⟨0, rfl, by decide, Below.refl _ _⟩
      case round =>
        obtain ⟨j2, rfl, hj2, hB⟩ := hrel
        rename World => wr2
        replace HT := Lib.hid (HT.out.next hB)
        replace R2 := Lib.hid (R2.out.next hB)
        replace G := Lib.hid (G.out.next hB)
        replace S1 := Lib.hid (S1.out.next hB)
        replace BB := Lib.hid (Below.andThen BB.out hB)
        have S2 := Lib.hid (show SinceW w11 wr2 from hB)
        clear hB
        by_cases hlt2 : j2 < 2
        · obtain ⟨y, hc, -⟩ := R2.out.2 j2 hlt2
          have lb := R2.out.1
          have d2 : decide ((j2 : Int) < 2) = true := by simp; omega
          obtain ⟨pn, gn, hq1, hq2⟩ := CN.out y v l
          have C1 := Lib.hid hq1
          have C2 := Lib.hid hq2
          clear hq1 hq2
          go_wp2_with fail
          clear hc lb
          with_reducible refine Calls.mono (C1.out _ HT.out G.out) ?_
          rintro e w12 ⟨rfl, hb⟩
          replace HT := Lib.hid (HT.out.next hb)
          replace G := Lib.hid (G.out.next hb)
          replace S1 := Lib.hid (S1.out.next hb)
          replace S2 := Lib.hid (S2.out.next hb)
          replace BB := Lib.hid (Below.andThen BB.out hb)
          clear hb
          go_wp2_with fail
          with_reducible refine Calls.mono (C2.out _ G.out) ?_
          rintro e w13 ⟨rfl, hb⟩
          replace HT := Lib.hid (HT.out.next hb)
          replace G := Lib.hid (G.out.next hb)
          replace S1 := Lib.hid (S1.out.next hb)
          replace S2 := Lib.hid (S2.out.next hb)
          replace BB := Lib.hid (Below.andThen BB.out hb)
          clear hb
          go_upto_region 27 with (fail)
          refine wp_named fun w14 hq => ?_
          obtain ⟨b3, eb3⟩ : ∃ b, b = w13.heap.size := ⟨_, rfl⟩
          have RZ := Lib.hid (show Nums 3 w14 b3 by rw [hq, eb3]; exact nums_new w13 _ [a0, 0, (i : Int)] (by intro y hy; simp at hy; have := HA0.out; omega))
          have hb : Below w13.heap.size w13 w14 := by rw [hq]; exact (Below.refl _ _).alloc (Nat.le_refl _) _
          replace HT := Lib.hid (HT.out.next hb)
          replace S1 := Lib.hid (S1.out.next hb)
          replace S2 := Lib.hid (S2.out.next hb)
          replace G := Lib.hid (G.out.next hb)
          replace BB := Lib.hid (Below.andThen BB.out hb)
          clear hb
          rw [← eb3]
          clear hq eb3 C1 C2
          go_loopw [139] (fun jv wr => ∃ j : Nat, jv = .int .i64 j ∧ j ≤ 3 ∧ Below w14.heap.size w14 wr) (fun jv _ => 3 - (intOf jv).toNat)
          case atStart => exact ⟨0, rfl, by decide, Below.refl _ _⟩
          case round =>
            obtain ⟨j3, rfl, hj3, hB⟩ := hrel
            rename World => wr3
            replace HT := Lib.hid (HT.out.next hB)
            replace RZ := Lib.hid (RZ.out.next hB)
            replace G := Lib.hid (G.out.next hB)
            replace S1 := Lib.hid (S1.out.next hB)
            replace S2 := Lib.hid (S2.out.next hB)
            replace BB := Lib.hid (Below.andThen BB.out hB)
            have S3 := Lib.hid (show SinceW w14 wr3 from hB)
            clear hB
            by_cases hlt3 : j3 < 3
            · obtain ⟨z, hc, -⟩ := RZ.out.2 j3 hlt3
              have lb := RZ.out.1
              obtain ⟨pp, gp, bp, hq1, hq2⟩ := CP.out y z v l
              have C1 := Lib.hid hq1
              have C2 := Lib.hid hq2
              clear hq1 hq2
              go_wp2_with fail
              clear hc lb
              with_reducible refine Calls.mono (C1.out _ HT.out G.out) ?_
              rintro e w15 ⟨rfl, hb⟩
              replace HT := Lib.hid (HT.out.next hb)
              replace G := Lib.hid (G.out.next hb)
              replace S1 := Lib.hid (S1.out.next hb)
              replace S2 := Lib.hid (S2.out.next hb)
              replace S3 := Lib.hid (S3.out.next hb)
              replace BB := Lib.hid (Below.andThen BB.out hb)
              clear hb
              go_wp2_with fail
              with_reducible refine Calls.mono (C2.out _ G.out) ?_
              rintro e w16 ⟨rfl, hb⟩
              replace HT := Lib.hid (HT.out.next hb)
              replace G := Lib.hid (G.out.next hb)
              replace S1 := Lib.hid (S1.out.next hb)
              replace S2 := Lib.hid (S2.out.next hb)
              replace S3 := Lib.hid (S3.out.next hb)
              replace BB := Lib.hid (Below.andThen BB.out hb)
              clear hb
              go_wp2_with fail
              go_roundw
              case rel => exact ⟨j3 + 1, by go_num, by omega, S3.out⟩
              case measure => simp [intOf]; omega
            · obtain rfl : j3 = 3 := by omega
              go_wp2_with fail
              go_roundw
              case rel => exact ⟨j2 + 1, by go_num, by omega, S2.out⟩
              case measure => simp [intOf]; omega
        · obtain rfl : j2 = 2 := by omega
          go_wp2_with fail
          go_roundw
          case rel => exact ⟨j + 1, by go_num, by omega, S1.out⟩
          case measure => simp [intOf]; omega
    · obtain rfl : j = 3 := by omega
      go_wp2_with fail
      go_ret
      exact ⟨rfl, BB.out⟩
namespace wordReadsMatchReference
set_option maxRecDepth 100000 in
theorem contract (H : Type) (enc : TypeId × Value → H) (W : World) (base : Nat) (args : Array Value) (ds gs : List (DataW H)) (before : List MemPlace)
    (hval : ∀ (j : Nat) t v, Tryd.f4.params[j]? = some t → args[j]? = some v → Value.okWide Tryd.prog W .any base t v)
    (hW : DataW.Whole enc Tryd.prog Tryd.f4.params.toList Rows.wordReadsMatchReferenceSpec.vars false W args.toList ds gs before) (hL : laidMetH Tryd.prog Rows.wordReadsMatchReferenceRow.laid W) (hsh : W.ShapedOpen Tryd.prog) :
    Calls Tryd.prog 4 args W fun e W' => ∃ v, e = .returned v ∧ Rows.wordReadsMatchReferenceSpec.post enc Tryd.prog Tryd.f4 false true false false W args v W' := by
  have hW' := hW
  obtain ⟨p, q, hA0, hV, rfl, hfz, hnd⟩ := hW
  have hA : DataW.TrodAll enc Tryd.prog W 0 (fun _ => true) true Tryd.f4.params.toList args.toList ds p := hA0
  rw [Tryd.params4] at hA hval
  obtain ⟨v0, vs0, d0, ds0, p0, q0, hargs, rfl, rfl, h0, r0⟩ := trodAll_cons hA
  obtain ⟨v1, vs1, d1, ds1, p1, q1, rfl, rfl, rfl, h1, r1⟩ := trodAll_cons r0
  obtain ⟨v2, vs2, d2, ds2, p2, q2, rfl, rfl, rfl, h2, r2⟩ := trodAll_cons r1
  obtain ⟨v3, vs3, d3, ds3, p3, q3, rfl, rfl, rfl, h3, r3⟩ := trodAll_cons r2
  obtain ⟨v4, vs4, d4, ds4, p4, q4, rfl, rfl, rfl, h4, r4⟩ := trodAll_cons r3
  obtain ⟨v5, vs5, d5, ds5, p5, q5, rfl, rfl, rfl, h5, r5⟩ := trodAll_cons r4
  obtain ⟨v6, vs6, d6, ds6, p6, q6, rfl, rfl, rfl, h6, r6⟩ := trodAll_cons r5
  obtain ⟨rfl, rfl, rfl⟩ := trodAll_nil r6
  obtain rfl : args = #[v0, v1, v2, v3, v4, v5, v6] := by cases args; simp_all
  obtain ⟨a0, rfl, rfl, rfl, k0⟩ := open_int Tryd.underlying3 (hval 0 _ _ rfl rfl) h0
  obtain ⟨a1, rfl, rfl, rfl, k1⟩ := open_int Tryd.underlying3 (hval 1 _ _ rfl rfl) h1
  obtain ⟨a2, rfl, rfl, rfl, k2⟩ := open_int Tryd.underlying3 (hval 2 _ _ rfl rfl) h2
  obtain ⟨a3, rfl, rfl, rfl, k3⟩ := open_int Tryd.underlying3 (hval 3 _ _ rfl rfl) h3
  obtain ⟨a4, rfl, rfl, rfl, k4⟩ := open_int Tryd.underlying3 (hval 4 _ _ rfl rfl) h4
  obtain ⟨a5, rfl, rfl, rfl, k5⟩ := Go.ChangeMaps.open_string Tryd.underlying9 (hval 5 _ _ rfl rfl) h5
  obtain ⟨oa6, la6, ca6, a6, rfl, ma6, k6, ga6⟩ := open_strS Tryd.underlying25 Tryd.underlying9 (by kernel_rfl) (hval 6 _ _ rfl rfl) h6
  refine (wordReads_law a0 a1 a2 a3 a4 a5 oa6 la6 ca6 a6 W (wordT hL hsh) (bd_i64 k0) (bd_i64 k1) (bd_i64 k2) (bd_i64 k3) (bd_i64 k4) k5 ma6 k6 ga6).mono fun e W' ⟨he, hb⟩ => ?_
  subst he
  obtain ⟨rfl, _⟩ := trodVars_none hV
  exact ⟨_, rfl, law_post laidOut (by kernel_rfl) rfl (by kernel_rfl) Tryd.underlying4 hW' rfl hb⟩

noncomputable def laidWorld (os : Os) : World := World.laidAll Tryd.prog os Rows.wordReadsMatchReferenceRow.laid
def args0 : Array Value := #[.int .i64 0, .int .i64 0, .int .i64 0, .int .i64 0, .int .i64 0, .string ⟨#[]⟩, .slice none 0 0]
theorem laid_met (os : Os) : laidMet Tryd.prog Rows.wordReadsMatchReferenceRow.laid ((laidWorld os).forCall (fun _ _ => 0) ⟨#[], args0, []⟩).memory :=
  laidMet_laidAll _ (by kernel_rfl) (by kernel_rfl)
theorem reads (os : Os) {H : Type} (enc : TypeId × Value → H) : ∃ places, DataW.whole enc Tryd.prog ((laidWorld os).forCall (fun _ _ => 0) ⟨#[], args0, []⟩).memory Tryd.f4.params.toList Rows.wordReadsMatchReferenceSpec.vars false args0.toList 8 = some ([.lit (.int .i64 0), .lit (.int .i64 0), .lit (.int .i64 0), .lit (.int .i64 0), .lit (.int .i64 0), .lit (.string []), .nil], [], places) :=
  ⟨[], by kernel_rfl⟩

set_option maxRecDepth 100000 in
theorem lifted (os : Os) (started : os.Started) (H : Type) (enc : TypeId × Value → H) (F : Stop.Interp) :
    ReturnsInHanded {} Tryd.checked os 4 .any ((OpenSpec.ofChange Rows.wordReadsMatchReferenceSpec).preRow enc Tryd.prog Tryd.f4 Rows.wordReadsMatchReferenceRow.domain false Rows.wordReadsMatchReferenceRow.laid) (((OpenSpec.ofChange Rows.wordReadsMatchReferenceSpec).at F).post enc Tryd.prog Tryd.f4 false true false false) := by
  obtain ⟨places, hx⟩ := reads os enc
  refine returnsInHanded_of_row (C := Tryd.checked) (s := OpenSpec.ofChange Rows.wordReadsMatchReferenceSpec) own started (by kernel_rfl) Tryd.func4
    (witness_row_at (enc := enc) (C := Tryd.checked) false (laidWorld os) args0 (World.laidAll_os _ _ _) (by kernel_rfl) (by kernel_rfl) (by kernel_rfl)
      (OpenSpec.preRow_of_cond 8 hx (by kernel_rfl) (fun k hk => by cases hk) (by kernel_rfl) (laid_met os))) ?_
  intro W base args ds gs before hval hW _ _ _ hL hsh _
  exact contract H enc W base args ds gs before hval hW hL hsh

theorem said : Rows.WordReadsMatchReferenceSaid :=
  OpenClaim.holds_of_cond 4 Tryd.f4 rfl rfl rfl rfl rfl rfl rfl ⟨rfl, rfl, rfl, rfl, rfl⟩ rfl rfl rfl rfl rfl (by kernel_rfl) Tryd.func4 (by kernel_rfl)
    (of_decide_eq_true (by kernel_rfl)) (by unfold Func.isWrapper; first | (rw [if_pos (by decide +kernel)]; kernel_rfl) | (rw [if_neg (by decide +kernel)]; exact ⟨rfl, rfl⟩))
    (fun os started H enc _ F => by rw [OpenClaim.pre_eq_preRow]; exact lifted os started H enc F)

theorem plain (f : FuncId) (fn : Func) (hf : Tryd.pinned.checked.prog.funcNamed "newswire/newswirelaw11.WordReadsMatchReference" = some f) (hfn : Tryd.pinned.checked.prog.funcs[f]? = some fn) :
    false = Tryd.pinned.checked.prog.looks [] ∧ ∀ (j : Nat) t, fn.params[j]? = some t → Tryd.pinned.checked.prog.wantsStandIn t = false := by
  obtain rfl : f = 4 := Option.some.inj ((show Tryd.prog.funcNamed "newswire/newswirelaw11.WordReadsMatchReference" = some 4 by kernel_rfl).symm.trans hf) |>.symm
  obtain rfl : fn = Tryd.f4 := (Option.some.inj (Tryd.func4.symm.trans hfn)).symm
  refine ⟨by kernel_rfl, fun j t ht => ?_⟩
  have all : (Tryd.f4.params.toList.all fun t => Tryd.prog.wantsStandIn t == false) = true := by kernel_rfl
  have := List.all_eq_true.1 all t (by rw [← Array.mem_def]; exact Array.mem_of_getElem? ht)
  exact (show Tryd.prog.wantsStandIn t = false by simpa using this)

/-- The statement. -/
theorem card : Rows.WordReadsMatchReferenceCardSaid :=
  Claim7.holds_tied_plain_at .later [] _ _ _ _ said (fun _ h => by cases h) (by kernel_rfl) (fun _ h => by cases h) wordReadsMatchReference_row_tie rfl ⟨rfl, rfl⟩ (by kernel_rfl) rfl plain (by kernel_rfl)
end wordReadsMatchReference
end Go.Proofs.YtebdpdmkehfgfaaDoor
