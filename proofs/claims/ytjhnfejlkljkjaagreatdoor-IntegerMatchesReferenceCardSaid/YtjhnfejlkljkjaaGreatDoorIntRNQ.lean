/- The reference implementation: Gcd. -/
/- The reference implementation: Root. -/
/- The reference implementation: FromInt. -/
/- The reference implementation: ToInt. -/
import Derived.Test.YtjhnfejlkljkjaaGreatDoorIntRJL
namespace Go.Proofs.YtjhnfejlkljkjaaGreatDoor
open Go.RowKit

theorem DSl.inj {w : World} {v : Value} {n m : Nat} (h : DSl w v n) (k : DSl w v m) : n = m := by
  obtain ⟨o, c, rfl, h1, h2, h3, h4⟩ := h.ex
  obtain ⟨o', c', e, k1, k2, k3, k4⟩ := k.ex
  have hl : (In.dg n).length = (In.dg m).length := by injection e
  have ho : o = o' := by injection e
  subst ho
  refine In.gr_inj (B := 10) (by decide) ?_
  apply List.ext_getElem?
  intro j
  rcases Nat.lt_or_ge j (In.dg n).length with hj | hj
  · rcases h4 with h4 | ⟨b, off, rfl, hb, hc⟩
    · rw [h4] at hj; simp at hj
    · rcases k4 with k4 | ⟨b', off', e', hb', hc'⟩
      · rw [k4] at hl; simp at hl; rw [hl] at hj; simp at hj
      · cases e'
        have a1 := hc j _ (List.getElem?_eq_getElem hj)
        have a2 := hc' j _ (List.getElem?_eq_getElem (by rw [← hl]; exact hj))
        rw [a1] at a2
        injection a2 with a3
        injection a3 with _ a4
        show (In.dg n)[j]? = (In.dg m)[j]?
        rw [List.getElem?_eq_getElem hj, List.getElem?_eq_getElem (by rw [← hl]; exact hj)]
        congr 1
        omega
  · show (In.dg n)[j]? = (In.dg m)[j]?
    rw [List.getElem?_eq_none hj, List.getElem?_eq_none (by omega)]
open Classical in
/-- the number whose digits a slice holds -/
noncomputable def dnatOf (w : World) (v : Value) : Nat := if h : ∃ n, DSl w v n then Classical.choose h else 0
theorem dnatOf_is {w : World} {v : Value} {n : Nat} (h : DSl w v n) : dnatOf w v = n := by
  have h0 : ∃ n, DSl w v n := ⟨n, h⟩
  unfold dnatOf
  rw [dif_pos h0]
  exact DSl.inj (Classical.choose_spec h0) h
def DLe (n k : Nat) : Prop := (In.dg n).length ≤ k
set_option maxRecDepth 100000 in
set_option maxHeartbeats 4000000 in
theorem rGcd_any (a b : ByteArray) (w : World) (ha : a.size ≤ maxLen) (hb : b.size ≤ maxLen) :
    Calls Tryz.prog 16 #[.string a, .string b] w fun e w' => e = .returned (.tuple #[.string (In.opS In.gcdZ a b).1, .int .i64 (In.opS In.gcdZ a b).2]) ∧ Below w.heap.size w w' := by
  cases hx : In.num a with
  | none =>
    have V1 := Lib.hid (fun W => valid_none hx W ha)
    rw [In.opS_left hx]
    clear hx ha hb
    go_enter Tryz.func16, Tryz.ntmps16
    go_wp2_with fail
    with_reducible refine Calls.mono (V1.out _) ?_
    rintro e w' ⟨rfl, rfl⟩
    go_wp2_with fail
    go_ret2
    exact ⟨rfl, Below.refl _ _⟩
  | some x =>
    have V1 := Lib.hid (fun W => valid_some hx W ha)
    cases hy : In.num b with
    | none =>
      have V2 := Lib.hid (fun W => valid_none hy W hb)
      rw [In.opS_right hy]
      clear hx hy ha hb
      go_enter Tryz.func16, Tryz.ntmps16
      go_wp2_with fail
      with_reducible refine Calls.mono (V1.out _) ?_
      rintro e w' ⟨rfl, rfl⟩
      go_wp2_with fail
      with_reducible refine Calls.mono (V2.out _) ?_
      rintro e w' ⟨rfl, rfl⟩
      go_wp2_with fail
      go_ret2
      exact ⟨rfl, Below.refl _ _⟩
    | some y =>
      have V2 := Lib.hid (fun W => valid_some hy W hb)
      rw [In.opS_some hx hy]
      have lx := fit_abs hx
      have ly := fit_abs hy
      have D1 := Lib.hid (fun W => rdigits_any a x W hx)
      have D2 := Lib.hid (fun W => rdigits_any b y W hy)
      obtain ⟨G, hG⟩ : ∃ G, G = Nat.gcd x.natAbs y.natAbs := ⟨_, rfl⟩
      have HG := Lib.hid hG
      have lG : DLe G 900 := by
        show (In.dg G).length ≤ 900
        rw [hG]
        rcases Nat.eq_zero_or_pos x.natAbs with h | h
        · rw [h, Nat.gcd_zero_left]; omega
        · have := In.dg_mono (Nat.gcd_le_left y.natAbs h); omega
      have CC := Lib.hid (fun W v h => rchecked_any false v G W h (Nat.le_trans (show (In.dg G).length ≤ 900 from lG) (by decide)))
      rw [show In.sgn G false = In.gcdZ x y from by rw [hG]; rfl] at CC
      have HL := Lib.hid (And.intro lx ly)
      generalize In.fit (In.gcdZ x y) = R at *
      obtain ⟨R1, R2⟩ := R
      clear lx ly hx hy ha hb hG lG
      generalize x.natAbs = X at *
      generalize y.natAbs = Y at *
      generalize In.neg x = nx at *
      generalize In.neg y = ny at *
      go_enter Tryz.func16, Tryz.ntmps16
      go_wp2_with fail
      with_reducible refine Calls.mono (V1.out _) ?_
      rintro e w' ⟨rfl, rfl⟩
      go_wp2_with fail
      with_reducible refine Calls.mono (V2.out _) ?_
      rintro e w' ⟨rfl, rfl⟩
      go_wp2_with fail
      with_reducible refine Calls.mono (D1.out _) ?_
      rintro e w1 ⟨u, rfl, hu, hb⟩
      have HU := Lib.hid (And.intro hu hb)
      clear hu hb
      go_wp2_with fail
      with_reducible refine Calls.mono (D2.out _) ?_
      rintro e w2 ⟨v, rfl, hv, hb⟩
      have HV := Lib.hid (And.intro hv (And.intro (HU.out.1.next hb) (Below.andThen HU.out.2 hb)))
      clear hv hb
      go_wp2_with fail
      go_loopw [7, 9] (fun nv mv wr => ∃ N M, DSl wr nv N ∧ DSl wr mv M ∧ Nat.gcd N M = G ∧ DLe N 900 ∧ DLe M 900 ∧ Below w.heap.size w wr) (fun _ mv wr => dnatOf wr mv)
      case atStart => exact ⟨X, Y, HV.out.2.1, HV.out.1, HG.out.symm, Nat.le_trans HL.out.1 (by decide), Nat.le_trans HL.out.2 (by decide), HV.out.2.2⟩
      case round =>
        clear HV
        obtain ⟨N, M, hn, hm, hg, lN, lM, hB⟩ := hrel
        have hmeas := Lib.hid (dnatOf_is hm)
        have HNM := Lib.hid (And.intro hn (And.intro hm (And.intro hg hB)))
        have hM0 := In.dg_nil (n := M)
        obtain ⟨o1, c1, rfl, _⟩ := hn.ex
        obtain ⟨o2, c2, rfl, _⟩ := hm.ex
        clear hg hB hn hm
        by_cases h0 : M = 0
        · subst h0
          have e0 : (In.dg 0).length = 0 := rfl
          have hgg : N = G := by
            have := HNM.out.2.2.1
            rwa [Nat.gcd_zero_right] at this
          subst hgg
          have CC2 := Lib.hid (CC.out _ _ HNM.out.1)
          generalize (In.dg N).length = LN at *
          rw [e0]
          clear hM0 e0
          go_wp2_with fail
          with_reducible refine Calls.mono CC2.out ?_
          rintro e w3 ⟨rfl, hb⟩
          have HB := Lib.hid (Below.andThen HNM.out.2.2.2 hb)
          clear hb
          go_wp2_with fail
          go_ret2
          exact ⟨rfl, HB.out⟩
        · have hp : 0 < M := by omega
          have CO := Lib.hid (rdivided_any (.slice o1 (In.dg N).length c1) (.slice o2 (In.dg M).length c2) N M wr HNM.out.1 HNM.out.2.1 hp lN lM)
          have HLM : DLe M 900 ∧ DLe (N % M) 900 := (And.intro lM (Nat.le_trans (In.dg_mono (Nat.le_of_lt (Nat.mod_lt N hp))) lM))
          have HG2 := Lib.hid (show Nat.gcd M (N % M) = G from by
            have h1 := HNM.out.2.2.1
            rw [Nat.gcd_comm, Nat.gcd_rec, Nat.gcd_comm] at h1
            exact h1)
          have hlt := Lib.hid (Nat.mod_lt N hp)
          have hpos : 0 < (In.dg M).length := by
            rcases Nat.eq_zero_or_pos (In.dg M).length with h | h
            · exact absurd (hM0.1 h) h0
            · exact h
          clear lN lM hM0 h0
          generalize (In.dg M).length = LM at *
          generalize (In.dg N).length = LN at *
          go_wp2_with fail
          with_reducible refine Calls.mono CO.out ?_
          rintro e w3 ⟨q, r, rfl, hq, hr, hb⟩
          have HK := Lib.hid (And.intro hr hb)
          clear hq hr hb
          go_wp2_with fail
          go_roundw
          case rel => exact ⟨M, N % M, HNM.out.2.1.next HK.out.2, HK.out.1, HG2.out, HLM.1, HLM.2, Below.andThen HNM.out.2.2.2 HK.out.2⟩
          case measure => rw [dnatOf_is HK.out.1, hmeas.out]; exact hlt.out
end Go.Proofs.YtjhnfejlkljkjaaGreatDoor
namespace Go.Proofs.YtjhnfejlkljkjaaGreatDoor
open Go.RowKit

set_option maxRecDepth 100000 in
set_option maxHeartbeats 2000000 in
theorem rtrimmed_any (o : Option Addr) (L c : Nat) (l : List Nat) (w : World) (hL : l.length = L) (hl : ∀ x ∈ l, x < 10) (hle : L ≤ 1000) (ho : o = none → c = 0) (hS : LSl w o l) :
    Calls Tryz.prog 49 #[.slice o L c] w fun e w' => ∃ v, e = .returned v ∧ DSl w' v (In.nv 10 l) ∧ Below w.heap.size w w' := by
  obtain ⟨i0, hi, hz0, hz1, hz2⟩ := info_parts infoInt
  have HS := Lib.hid hS
  have HL := Lib.hid hL
  have HX := Lib.hid hl
  clear hS hL hl
  go_enter Tryz.func49, Tryz.ntmps49
  go_wp2_with (at_builtin; refine wpList_append_nats rfl _ _ 38 Tryz.underlying38 rfl rfl w.heap.size (.slice (some ⟨w.heap.size, 0, none⟩) 0 0) 0 [] rfl (made_none w (Nat.le_refl _) rfl) o L c l rfl HL.out ho (HS.out.next ((Below.refl _ _).alloc (Nat.le_refl _) _)) (by omega) (by simp) ?_; intro v' w2 hown' hgrow; have K := Lib.hid (And.intro hown' (((Below.refl w.heap.size w).alloc (Nat.le_refl _) (.cells #[] 3)).grown hgrow (by simp) (fun k hk => by simp [Value.ownBlock] at hk; omega))); clear hown' hgrow)
  obtain ⟨o2, c2, rfl, k1, k2, k3, k4⟩ := own_nats K.out.1
  unfold maxLen at k2
  have CT := Lib.hid (rtrim_any o2 (0 + L) c2 ([] ++ l) w2 (by rw [List.nil_append, Nat.zero_add]; exact HL.out) (by rw [List.nil_append]; exact HX.out) k1 (by omega) k3 k4)
  rw [List.nil_append] at CT
  clear k1 k2 k3 k4
  refine Calls.mono CT.out ?_
  rintro e w3 ⟨k, rfl, hn, hb⟩
  have HF := Lib.hid (And.intro hn (Below.andThen K.out.2 hb))
  clear hn hb
  go_wp2_with fail
  go_ret
  exact ⟨_, rfl, HF.out⟩
theorem cmpN_more (a b : Nat) : decide (0 < In.cmpN a b) = decide (b < a) := by
  unfold In.cmpN
  split
  · rw [decide_eq_false (by omega), decide_eq_false (by omega)]
  · split
    · rw [decide_eq_true (by omega), decide_eq_true (by omega)]
    · rw [decide_eq_false (by omega), decide_eq_false (by omega)]
theorem root_val (m d : Nat) (qs : List Nat) : In.nv 10 (List.replicate m 0 ++ d :: qs) = In.nv 10 qs * 10 ^ (m + 1) + d * 10 ^ m := by
  rw [In.nv_zeros_front, In.nv_cons, Nat.mul_add, Nat.pow_succ]
  have e1 : 10 ^ m * (10 * In.nv 10 qs) = In.nv 10 qs * (10 ^ m * 10) := by ac_rfl
  rw [e1, Nat.mul_comm (10 ^ m) d]
  omega
set_option maxRecDepth 100000 in
set_option maxHeartbeats 4000000 in
theorem rRoot_any (a : ByteArray) (w : World) (ha : a.size ≤ maxLen) :
    Calls Tryz.prog 18 #[.string a] w fun e w' => e = .returned (.tuple #[.string (In.rootS a).1, .int .i64 (In.rootS a).2]) ∧ Below w.heap.size w w' := by
  obtain ⟨i0, hi, hz0, hz1, hz2⟩ := info_parts infoInt
  cases hx : In.num a with
  | none =>
    have V1 := Lib.hid (fun W => valid_none hx W ha)
    rw [In.rootS_none hx]
    clear hx ha
    go_enter Tryz.func18, Tryz.ntmps18
    go_wp2_with fail
    with_reducible refine Calls.mono (V1.out _) ?_
    rintro e w' ⟨rfl, rfl⟩
    go_wp2_with fail
    go_ret2
    exact ⟨rfl, Below.refl _ _⟩
  | some x =>
    have V1 := Lib.hid (fun W => valid_some hx W ha)
    have hl := In.txt_list x
    rw [← (In.num_some hx).1] at hl
    unfold In.txtL Lib.itoa at hl
    have hp : 0 < a.size := by
      have : 0 < a.data.toList.length := by
        rw [hl]
        split
        · simp
        · exact List.length_pos_iff.2 (In.dec_ne _)
      simpa using this
    have i1 := fun (w : World) => run_index_at (P := Tryz.prog) w 9 a .i64 0 rfl hp
    rw [show ((0 : Nat) : Int) = 0 from rfl] at i1
    by_cases hz : x < 0
    · rw [In.rootS_neg hx hz]
      rw [if_pos hz] at hl
      have h45 : (a[0]'hp) = 45 := by
        have h1 := ba_at a 0 hp
        rw [hl] at h1
        exact (Option.some.inj h1).symm
      rw [h45, show ((45 : UInt8).toNat : Int) = 45 from rfl] at i1
      clear hl h45 hx ha hz
      go_enter Tryz.func18, Tryz.ntmps18
      go_wp2_with fail
      with_reducible refine Calls.mono (V1.out _) ?_
      rintro e w' ⟨rfl, rfl⟩
      go_wp2_with fail
      go_ret2
      exact ⟨rfl, Below.refl _ _⟩
    rw [In.rootS_some hx (by omega)]
    rw [if_neg hz] at hl
    have h46 : ((a[0]'hp).toNat : Int) ≠ 45 := by
      intro h
      have h1 := ba_at a 0 hp
      rw [hl, ← List.head?_eq_getElem?] at h1
      refine In.head_dec x.toNat (h1.trans (congrArg some (UInt8.toNat_inj.1 ?_)))
      show _ = 45
      omega
    generalize (a[0]'hp).toNat = c0 at *
    have dd : decide ((c0 : Int) = 45) = false := decide_eq_false h46
    have d3 : ((c0 : Int) == 45) = false := by simpa using h46
    have lx := fit_abs hx
    have D1 := Lib.hid (fun W => rdigits_any a x W hx)
    have hfx := (In.num_some hx).2
    have hfx : x.natAbs < 10 ^ 200 := hfx
    clear hl h46 hx ha hz
    generalize x.natAbs = X at *
    generalize In.neg x = nx at *
    go_enter Tryz.func18, Tryz.ntmps18
    go_wp2_with fail
    with_reducible refine Calls.mono (V1.out _) ?_
    rintro e w' ⟨rfl, rfl⟩
    go_wp2_with fail
    with_reducible refine Calls.mono (D1.out _) ?_
    rintro e w1 ⟨v, rfl, hv, hb⟩
    have HV := Lib.hid (And.intro hv hb)
    obtain ⟨o, c, rfl, _⟩ := hv.ex
    have htop := Lib.hid (In.rroot_top X)
    obtain ⟨L, hL⟩ : ∃ L, (In.dg X).length = L := ⟨_, rfl⟩
    obtain ⟨N, hN⟩ : ∃ N, (L + 1) / 2 = N := ⟨_, rfl⟩
    rw [hL, hN] at htop
    rw [hL] at lx ⊢
    have hNI : ((L : Int) + 1) / 2 = (N : Int) := by omega
    have hN2 : N ≤ 200 := by omega
    have hmk := run_make_row (P := Tryz.prog) w1 38 3 i0 _ 8 Tryz.underlying38 hi hz0 hz1 hz2 rfl N (by omega) (by omega)
    have HL := Lib.hid hL
    clear hv hb hL hN
    go_wp2_with fail
    have HR0 := Lib.hid (And.intro (row_zeros w1 N 3) (show Below w1.heap.size w1 (w1.alloc (.cells (Array.replicate N (.int .i64 0)) 3)) from (Below.refl _ _).alloc (Nat.le_refl _) _))
    clear hmk hNI
    go_loopw [7] (fun iv wr => ∃ (k : Nat) (qs : List Nat), iv = .int .i64 ((k : Int) - 1) ∧ k ≤ N ∧ qs.length = N - k ∧ (∀ x ∈ qs, x < 10) ∧ (In.nv 10 qs * 10 ^ k) * (In.nv 10 qs * 10 ^ k) ≤ X ∧ X < (In.nv 10 qs * 10 ^ k + 10 ^ k) * (In.nv 10 qs * 10 ^ k + 10 ^ k) ∧ Row wr w1.heap.size 3 ((List.replicate k 0 ++ qs).map natV) ∧ Below w1.heap.size w1 wr) (fun iv _ => (intOf iv + 1).toNat)
    case atStart => exact ⟨N, [], rfl, Nat.le_refl _, by simp, (fun x hx => by cases hx), by simp [In.nv], by simpa [In.nv] using htop.out, by rw [List.append_nil]; simpa [padL] using HR0.out.1, HR0.out.2⟩
    case round =>
      clear HR0 htop
      obtain ⟨k, qs, rfl, hk, hql, hqx, hlo, hhi, hR, hB⟩ := hrel
      cases k with
      | zero =>
        rw [Nat.pow_zero, Nat.mul_one] at hlo hhi
        rw [List.replicate_zero, List.nil_append] at hR
        rw [show ((0 : Nat) : Int) - 1 = -1 from rfl]
        have hsq := In.sqrtN_is hlo hhi
        have CT := Lib.hid (rtrim_any (some ⟨w1.heap.size, 0, none⟩) N N qs wr (by omega) hqx (Nat.le_refl _) (by omega) (fun h => by cases h) (row_sl hR))
        generalize In.nv 10 qs = Q at *
        have hQX : Q ≤ X := by rw [← hsq]; exact In.sqrtN_le X
        have CC := Lib.hid (fun W v h => rchecked_any false v Q W h (by have := In.dg_mono hQX; have := HL.out; omega))
        rw [show In.fit (In.sgn Q false) = (In.txt ((Q : Nat) : Int), 0) from In.fit_pos (show Int.natAbs ((Q : Nat) : Int) < 10 ^ 200 by rw [Int.natAbs_natCast]; omega)] at CC
        have HS := Lib.hid hsq
        have HB := Lib.hid hB
        clear hql hqx hlo hhi hR hB hsq hQX hfx
        go_wp2_with fail
        with_reducible refine Calls.mono CT.out ?_
        rintro e w3 ⟨kq, rfl, hn, hb⟩
        have CC2 := Lib.hid (CC.out _ _ hn)
        have HB2 := Lib.hid (Below.andThen HB.out hb)
        clear hn hb
        go_wp2_with fail
        refine Calls.mono CC2.out ?_
        rintro e w4 ⟨rfl, hb⟩
        have HB3 := Lib.hid (Below.andThen HV.out.2 (Below.andThen HB2.out hb))
        clear hb
        go_wp2_with fail
        go_ret2
        exact ⟨by rw [HS.out]; rfl, HB3.out⟩
      | succ m =>
        rw [show ((m + 1 : Nat) : Int) - 1 = (m : Int) by omega]
        have hrow1 : List.replicate (m + 1) 0 ++ qs = List.replicate m 0 ++ (0 :: qs) := by rw [List.replicate_succ', List.append_assoc]; rfl
        rw [hrow1] at hR
        have HK := Lib.hid (And.intro hql (And.intro hqx (And.intro hlo (And.intro hhi hB))))
        have k1 := (hR.cell m).trans (show _ = some (natV 0) from by rw [List.getElem?_map, mid_at]; rfl)
        have k2 := hR.frozen m
        have HR := Lib.hid hR
        have hmN : m < N := by omega
        clear hql hqx hlo hhi hR hB hrow1
        go_wp2_with fail
        go_loopw [] (fun wx => ∃ d, d ≤ 9 ∧ (d = 9 ∨ X < (In.nv 10 qs * 10 ^ (m + 1) + (d + 1) * 10 ^ m) * (In.nv 10 qs * 10 ^ (m + 1) + (d + 1) * 10 ^ m)) ∧ Row wx w1.heap.size 3 ((List.replicate m 0 ++ d :: qs).map natV) ∧ Below w1.heap.size w1 wx) (fun wx => cellN wx w1.heap.size m)
        case atStart =>
          have h1 := row_set_nat HR.out m 9
          rw [mid_set] at h1
          exact ⟨9, Nat.le_refl _, .inl rfl, by exact_mod_cast h1, HK.out.2.2.2.2.setCell (by simp) _⟩
        case round =>
          clear HR k1 k2
          obtain ⟨d, hd9, hdn, hR, hB⟩ := hrel
          rename World => wx
          have hcN := Lib.hid (cellN_row hR (mid_at m d qs))
          have k1 := (hR.cell m).trans (show _ = some (natV d) from by rw [List.getElem?_map, mid_at]; rfl)
          have hvl := root_val m d qs
          have hdx : ∀ y ∈ List.replicate m 0 ++ d :: qs, y < 10 := fun y hy => by
            rcases List.mem_append.1 hy with h | h
            · rw [(List.mem_replicate.1 h).2]; decide
            · rcases List.mem_cons.1 h with rfl | h
              · omega
              · exact HK.out.2.1 y h
          have hdl : (List.replicate m 0 ++ d :: qs).length = N := by
            have := HK.out.1
            simp
            omega
          have hY := In.nv_lt _ hdx
          rw [hvl, hdl] at hY
          have CR := Lib.hid (fun (W : World) (hb : Below wx.heap.size wx W) => rtrimmed_any (some ⟨w1.heap.size, 0, none⟩) N N (List.replicate m 0 ++ d :: qs) W hdl hdx (by omega) (fun h => by cases h) ((row_sl hR).next hb))
          rw [hvl] at CR
          have HX := Lib.hid (And.intro hR hB)
          have HY := Lib.hid (show (In.dg (In.nv 10 qs * 10 ^ (m + 1) + d * 10 ^ m)).length ≤ 200 from Nat.le_trans (In.dg_len_le hY) hN2)
          have HN := Lib.hid (fun (hle : (In.nv 10 qs * 10 ^ (m + 1) + d * 10 ^ m) * (In.nv 10 qs * 10 ^ (m + 1) + d * 10 ^ m) ≤ X) => In.rroot_next (X := In.nv 10 qs * 10 ^ (m + 1)) (P := 10 ^ m) (d := d) hle hdn (by
            have := HK.out.2.2.2.1
            rw [Nat.pow_succ] at this ⊢
            have e : 10 * 10 ^ m = 10 ^ m * 10 := Nat.mul_comm _ _
            rw [e]
            exact this))
          have HQ := Lib.hid (show In.nv 10 (d :: qs) * 10 ^ m = In.nv 10 qs * 10 ^ (m + 1) + d * 10 ^ m from by
            rw [← root_val, In.nv_zeros_front, Nat.mul_comm])
          generalize hYY : In.nv 10 qs * 10 ^ (m + 1) + d * 10 ^ m = Y at *
          have HYY := Lib.hid hYY
          clear hR hB hvl hdx hdl hY hdn hYY
          -- at the end of the inner loop
          have hend : ∀ (W : World), Y * Y ≤ X → Below wx.heap.size wx W → ∃ (k : Nat) (qs : List Nat), Value.int .i64 ((m : Int) - 1) = .int .i64 ((k : Int) - 1) ∧ k ≤ N ∧ qs.length = N - k ∧ (∀ x ∈ qs, x < 10) ∧ (In.nv 10 qs * 10 ^ k) * (In.nv 10 qs * 10 ^ k) ≤ X ∧ X < (In.nv 10 qs * 10 ^ k + 10 ^ k) * (In.nv 10 qs * 10 ^ k + 10 ^ k) ∧ Row W w1.heap.size 3 ((List.replicate k 0 ++ qs).map natV) ∧ Below w1.heap.size w1 W := by
            intro W hle hb
            obtain ⟨g1, g2⟩ := HN.out hle
            refine ⟨m, d :: qs, rfl, by omega, by have := HK.out.1; simp; omega, (fun y hy => ?_), by rw [HQ.out]; exact g1, by rw [HQ.out]; exact g2, HX.out.1.next hb, Below.andThen HX.out.2 hb⟩
            rcases List.mem_cons.1 hy with rfl | h
            · omega
            · exact HK.out.2.1 y h
          have HEND := Lib.hid hend
          clear hend HN HQ
          rcases Nat.eq_zero_or_pos d with h0 | hdp
          · have HLE := Lib.hid (show Y * Y ≤ X from by
              have := HYY.out
              rw [h0, Nat.zero_mul, Nat.add_zero] at this
              rw [← this]
              exact HK.out.2.2.1)
            subst h0
            clear CR HY HYY HX
            go_wp2_with fail
            go_roundw
            case rel => exact HEND.out _ HLE.out (Below.refl _ _)
            case measure => simp [intOf]
          · obtain ⟨f, rfl⟩ : ∃ f, d = f + 1 := ⟨d - 1, by omega⟩
            have d1 : decide (0 < ((f + 1 : Nat) : Int)) = true := by rw [decide_eq_true_eq]; omega
            have d2 : decide (0 < (f : Int) + 1) = true := by rw [decide_eq_true_eq]; omega
            clear k1
            have k1 := (HX.out.1.cell m).trans (show _ = some (natV (f + 1)) from by rw [List.getElem?_map, mid_at]; rfl)
            go_wp2_with fail
            with_reducible refine Calls.mono (CR.out _ (Below.refl _ _)) ?_
            rintro e wa ⟨r1, rfl, hn, hb⟩
            have HA := Lib.hid (And.intro hn hb)
            clear hn hb
            go_wp2_with fail
            with_reducible refine Calls.mono (CR.out _ HA.out.2) ?_
            rintro e wb ⟨r2, rfl, hn, hb⟩
            have HB2 := Lib.hid (And.intro hn (And.intro (HA.out.1.next hb) (Below.andThen HA.out.2 hb)))
            clear hn hb
            go_wp2_with fail
            have CT := Lib.hid (rtimes_any r1 r2 Y Y wb HB2.out.2.1 HB2.out.1 (by have := HY.out; omega) (by have := HY.out; omega))
            with_reducible refine Calls.mono CT.out ?_
            rintro e wc ⟨r3, rfl, hn, hb⟩
            have HC := Lib.hid (And.intro hn (Below.andThen HB2.out.2.2 hb))
            clear hn hb
            go_wp2_with fail
            have CO := Lib.hid (rorder_any r3 _ (Y * Y) X wc HC.out.1 (HV.out.1.next (Below.andThen HX.out.2 HC.out.2)) (by have := HY.out; have := In.dg_len_mul Y Y; omega) (by rw [HL.out]; omega))
            rw [HL.out] at CO
            have hmore := cmpN_more (Y * Y) X
            generalize In.cmpN (Y * Y) X = cm at *
            with_reducible refine Calls.mono CO.out ?_
            rintro e wd ⟨rfl, hb⟩
            have HD := Lib.hid (Below.andThen HC.out.2 hb)
            clear hb k1
            rcases Nat.lt_or_ge X (Y * Y) with h | h
            · rw [decide_eq_true h] at hmore
              have HXY := Lib.hid h
              have hR5 := HX.out.1.next HD.out
              have k1 := (hR5.cell m).trans (show _ = some (natV (f + 1)) from by rw [List.getElem?_map, mid_at]; rfl)
              have k2 := hR5.frozen m
              have HR5 := Lib.hid hR5
              clear h hR5
              go_wp2_with fail
              have hr6 := row_set_nat HR5.out m f
              rw [mid_set] at hr6
              go_roundw
              case rel => exact ⟨f, by omega, .inr (by rw [HYY.out]; exact HXY.out), by exact_mod_cast hr6, (Below.andThen HX.out.2 HD.out).setCell (by simp) _⟩
              case measure =>
                have h7 := cellN_row hr6 (mid_at m f qs)
                have h8 := hcN.out
                rw [h8]
                first | (rw [h7]; omega) | (simp only [natV] at h7; rw [h7]; omega)
            · rw [decide_eq_false (p := X < Y * Y) (by omega)] at hmore
              have HXY := Lib.hid h
              clear h
              go_wp2_with fail
              go_roundw
              case rel => exact HEND.out _ HXY.out HD.out
              case measure => simp [intOf]
end Go.Proofs.YtjhnfejlkljkjaaGreatDoor
namespace Go.Proofs.YtjhnfejlkljkjaaGreatDoor
open Go.RowKit

theorem sgn_two (m : Int) (q : Nat) (h : m.natAbs = q) : m = (q : Int) ∨ m = -(q : Int) := by omega
theorem dg_next {n j : Nat} (h : j < (In.dg n).length) : (In.dg n).take (j + 1) = (In.dg n).take j ++ [n / 10 ^ j % 10] := by
  rw [List.take_add_one, In.dg_at h, Option.toList_some]
theorem div_more {n j : Nat} : n / 10 ^ j / 10 = n / 10 ^ (j + 1) := by rw [Nat.div_div_eq_div_mul, ← Nat.pow_succ]
set_option maxRecDepth 100000 in
set_option maxHeartbeats 4000000 in
theorem rFromInt_any (n : Int) (w : World) (hn : -9223372036854775808 ≤ n ∧ n ≤ 9223372036854775807) :
    Calls Tryz.prog 6 #[.int .i64 n] w fun e w' => e = .returned (.string (In.txt n)) ∧ Below w.heap.size w w' := by
  obtain ⟨i0, hi, hz0, hz1, hz2⟩ := info_parts infoInt
  obtain ⟨u, hu⟩ : ∃ u, n.natAbs = u := ⟨_, rfl⟩
  have hu2 : u ≤ 9223372036854775808 := by omega
  have hl : (In.dg u).length ≤ 19 := In.dg_len_le (Nat.lt_of_le_of_lt hu2 (by decide))
  have hsg := In.sgn_neg n
  rw [hu] at hsg
  have CT := Lib.hid (fun W v (h : DSl W v u) => rtext_any v u (In.neg n) W h (by omega))
  rw [hsg] at CT
  have HU := Lib.hid hu
  clear hsg
  generalize In.txt n = S at *
  go_enter Tryz.func6, Tryz.ntmps6
  go_wp2_with fail
  go_loopw [3, 4] (fun lv mv wr => ∃ (j : Nat) (m : Int), mv = .int .i64 m ∧ m.natAbs = u / 10 ^ j ∧ j ≤ (In.dg u).length ∧ wr.ownsRow w.heap.size 3 1 lv j (((In.dg u).take j).map natV) ∧ Below w.heap.size w wr) (fun _ mv _ => (intOf mv).natAbs)
  case atStart => exact ⟨0, n, rfl, by rw [HU.out, Nat.pow_zero, Nat.div_one], Nat.zero_le _, World.ownsRow_nil _ _ _ _, Below.refl _ _⟩
  case round =>
    obtain ⟨j, m, rfl, hm, hj, hrow, hB⟩ := hrel
    have hsm : u / 10 ^ j ≤ u := Nat.div_le_self _ _
    have hout := In.dg_out (n := u) (i := j)
    have hj0 : j = (In.dg u).length → u / 10 ^ j = 0 := fun h => by rw [h]; exact In.dg_top u
    have hj1 : j < (In.dg u).length → 10 ^ j ≤ u := In.dg_big
    have hnx := dg_next (n := u) (j := j)
    have hdv := div_more (n := u) (j := j)
    obtain ⟨q, hq⟩ : ∃ q, u / 10 ^ j = q := ⟨_, rfl⟩
    rw [hq] at hm hsm hout hj0 hnx hdv
    rcases Nat.eq_zero_or_pos q with h0 | hqp
    · have hm0 : m = 0 := by omega
      have hjl : j = (In.dg u).length := by
        rcases Nat.lt_or_ge j (In.dg u).length with h | h
        · have h1 := hj1 h
          have h2 := (Nat.div_eq_zero_iff (a := u) (b := 10 ^ j)).1 (by rw [hq, h0])
          have h3 : 0 < 10 ^ j := Nat.pow_pos (by decide)
          omega
        · omega
      rw [hjl, List.take_length] at hrow
      obtain ⟨o, c, rfl, k1, k2, k3, k4⟩ := own_nats hrow
      unfold maxLen at k2
      have CT2 := Lib.hid (CT.out wr _ (DSl.mk' rfl k1 (by omega) k3 k4))
      rw [show In.neg n = decide (n < 0) from rfl] at CT2
      have HB := Lib.hid hB
      subst hm0
      generalize (In.dg u).length = LU at *
      clear hm hsm hout hj0 hj1 hnx hdv hrow hB k1 k2 k3 k4 hq hjl hj
      go_wp2_with fail
      with_reducible refine Calls.mono CT2.out ?_
      rintro e w3 ⟨rfl, hb⟩
      have HF := Lib.hid (Below.andThen HB.out hb)
      clear hb
      go_wp2_with fail
      go_ret
      exact ⟨rfl, HF.out⟩
    · have hjl : j < (In.dg u).length := by
        rcases Nat.lt_or_ge j (In.dg u).length with h | h
        · exact h
        · have := hj0 (by omega); omega
      have HNX := Lib.hid (hnx hjl)
      have t1 : (q : Int).tmod 10 = ((q % 10 : Nat) : Int) := by rw [Int.tmod_eq_emod_of_nonneg (by omega)]; rfl
      have t2 : (q : Int).tdiv 10 = ((q / 10 : Nat) : Int) := by rw [Int.tdiv_eq_ediv_of_nonneg (by omega)]; rfl
      have t3 : (q : Int) % 10 = ((q % 10 : Nat) : Int) := rfl
      have t4 : (q : Int) / 10 = ((q / 10 : Nat) : Int) := rfl
      have he : q % 10 < 10 := Nat.mod_lt _ (by decide)
      have HQ := Lib.hid (show q / 10 < q by omega)
      have hgq : q / 10 ≤ q := Nat.div_le_self _ _
      have HG := Lib.hid hdv
      have HR := Lib.hid hrow
      have HB := Lib.hid hB
      have hob := Lib.hid (own_block hrow)
      have hbs := hB.size
      generalize q % 10 = e at *
      generalize q / 10 = g at *
      have hd := sgn_two m q hm
      clear hm hout hj0 hj1 hnx hdv hrow hB
      rcases hd with rfl | rfl
      · have d1 : ((q : Int) != 0) = true := by simp; omega
        have d2 : decide ((q : Int) = 0) = false := by simp; omega
        have d3 : decide ((e : Int) < 0) = false := by simp
        ·
          go_wp2_with (at_builtin; refine wpList_append_nats rfl _ _ 38 Tryz.underlying38 rfl rfl w.heap.size _ j ((In.dg u).take j) rfl (HR.out.alloc _) (some ⟨wr.heap.size, 0, none⟩) 1 1 [e] rfl rfl (fun h => by cases h) (lsl_one _ _ e (by omega)) (by omega) (by simp; omega) ?_; intro v' w1 hown' hgrow; have K := Lib.hid (And.intro hown' hgrow); clear hown' hgrow)
          go_roundw
          case rel => exact ⟨j + 1, (g : Int), by go_num, by have := HG.out; omega, by omega, own_is K.out.1 rfl (by rw [HNX.out]), (HB.out.alloc hbs _).grown K.out.2 (by simp; omega) hob.out⟩
          case measure => have := HQ.out; simp [intOf]; omega
      · have d1 : (-(q : Int) != 0) = true := by simp; omega
        have d2 : decide (-(q : Int) = 0) = false := by simp; omega
        have d4 : decide ((q : Int) = 0) = false := by simp; omega
        have s1 : (-(q : Int)).tmod 10 = -(e : Int) := by rw [Int.neg_tmod, t1]
        have s2 : (-(q : Int)).tdiv 10 = -(g : Int) := by rw [Int.neg_tdiv, t2]
        rcases Nat.eq_zero_or_pos e with h0 | hep
        · have d3 : decide (-(e : Int) < 0) = false := by simp; omega
          have d5 : decide (0 < (e : Int)) = false := by simp; omega
          go_wp2_with (at_builtin; refine wpList_append_nats rfl _ _ 38 Tryz.underlying38 rfl rfl w.heap.size _ j ((In.dg u).take j) rfl (HR.out.alloc _) (some ⟨wr.heap.size, 0, none⟩) 1 1 [e] rfl rfl (fun h => by cases h) (lsl_one _ _ e (by omega)) (by omega) (by simp; omega) ?_; intro v' w1 hown' hgrow; have K := Lib.hid (And.intro hown' hgrow); clear hown' hgrow)
          go_roundw
          case rel => exact ⟨j + 1, -(g : Int), by go_num, by have := HG.out; omega, by omega, own_is K.out.1 rfl (by rw [HNX.out]), (HB.out.alloc hbs _).grown K.out.2 (by simp; omega) hob.out⟩
          case measure => have := HQ.out; simp [intOf]; omega
        · have d3 : decide (-(e : Int) < 0) = true := by simp; omega
          have d5 : decide (0 < (e : Int)) = true := by simp; omega
          go_wp2_with (at_builtin; refine wpList_append_nats rfl _ _ 38 Tryz.underlying38 rfl rfl w.heap.size _ j ((In.dg u).take j) rfl (HR.out.alloc _) (some ⟨wr.heap.size, 0, none⟩) 1 1 [e] rfl rfl (fun h => by cases h) (lsl_one _ _ e (by omega)) (by omega) (by simp; omega) ?_; intro v' w1 hown' hgrow; have K := Lib.hid (And.intro hown' hgrow); clear hown' hgrow)
          go_roundw
          case rel => exact ⟨j + 1, -(g : Int), by go_num, by have := HG.out; omega, by omega, own_is K.out.1 rfl (by rw [HNX.out]), (HB.out.alloc hbs _).grown K.out.2 (by simp; omega) hob.out⟩
          case measure => have := HQ.out; simp [intOf]; omega
end Go.Proofs.YtjhnfejlkljkjaaGreatDoor
namespace Go.Proofs.YtjhnfejlkljkjaaGreatDoor
open Go.RowKit

theorem val10_take_le (l : List UInt8) (k : Nat) : In.val10 (l.take k) ≤ In.val10 l := by
  have h := In.val10_append (l.take k) (l.drop k)
  rw [List.take_append_drop] at h
  rw [h]
  have h1 : 1 * In.val10 (l.take k) ≤ 10 ^ (l.drop k).length * In.val10 (l.take k) := Nat.mul_le_mul_right _ (Nat.pow_pos (by decide))
  omega
def loS : ByteArray := ⟨#[45, 57, 50, 50, 51, 51, 55, 50, 48, 51, 54, 56, 53, 52, 55, 55, 53, 56, 48, 56]⟩
def hiS : ByteArray := ⟨#[57, 50, 50, 51, 51, 55, 50, 48, 51, 54, 56, 53, 52, 55, 55, 53, 56, 48, 55]⟩
theorem num_lo : In.num loS = some (-9223372036854775808) := by kernel_rfl
theorem num_hi : In.num hiS = some 9223372036854775807 := by kernel_rfl
theorem cmp_lo {s : ByteArray} {x : Int} (h : In.num s = some x) (W : World) (hs : s.size ≤ maxLen) : Calls Tryz.prog 24 #[.string s, .string ⟨#[45, 57, 50, 50, 51, 51, 55, 50, 48, 51, 54, 56, 53, 52, 55, 55, 53, 56, 48, 56]⟩] W fun e w' => e = .returned (.int .i64 (In.cmpZ x (-9223372036854775808))) ∧ Below W.heap.size W w' := by
  have h1 := rCompare_any s loS W hs (by unfold maxLen; decide)
  rw [In.cmpS_some h num_lo] at h1
  exact h1
theorem cmp_hi {s : ByteArray} {x : Int} (h : In.num s = some x) (W : World) (hs : s.size ≤ maxLen) : Calls Tryz.prog 24 #[.string s, .string ⟨#[57, 50, 50, 51, 51, 55, 50, 48, 51, 54, 56, 53, 52, 55, 55, 53, 56, 48, 55]⟩] W fun e w' => e = .returned (.int .i64 (In.cmpZ x 9223372036854775807)) ∧ Below W.heap.size W w' := by
  have h1 := rCompare_any s hiS W hs (by unfold maxLen; decide)
  rw [In.cmpS_some h num_hi] at h1
  exact h1
set_option maxRecDepth 100000 in
set_option maxHeartbeats 4000000 in
theorem rToInt_any (s : ByteArray) (w : World) (hs : s.size ≤ maxLen) :
    Calls Tryz.prog 20 #[.string s] w fun e w' => e = .returned (.tuple #[.int .i64 (In.toS s).1, .int .i64 (In.toS s).2]) ∧ Below w.heap.size w w' := by
  cases hx : In.num s with
  | none =>
    have V1 := Lib.hid (fun W => valid_none hx W hs)
    rw [In.toS_none hx]
    clear hx hs
    go_enter Tryz.func20, Tryz.ntmps20
    go_wp2_with fail
    with_reducible refine Calls.mono (V1.out _) ?_
    rintro e w' ⟨rfl, rfl⟩
    go_wp2_with fail
    go_ret2
    exact ⟨rfl, Below.refl _ _⟩
  | some x =>
    have V1 := Lib.hid (fun W => valid_some hx W hs)
    have C1 := Lib.hid (fun W => cmp_lo hx W hs)
    have C2 := Lib.hid (fun W => cmp_hi hx W hs)
    rw [In.toS_some hx]
    have BB := Lib.hid (Below.refl w.heap.size w)
    by_cases hlo : x < -9223372036854775808
    · rw [if_neg (by omega)]
      have d1 : decide (In.cmpZ x (-9223372036854775808) < 0) = true := by
        rw [decide_eq_true_eq]
        unfold In.cmpZ
        rw [if_pos hlo]
        decide
      generalize In.cmpZ x (-9223372036854775808) = c1 at *
      clear hx hs hlo C2
      go_enter Tryz.func20, Tryz.ntmps20
      go_wp2_with fail
      with_reducible refine Calls.mono (V1.out _) ?_
      rintro e w' ⟨rfl, rfl⟩
      go_wp2_with fail
      with_reducible refine Calls.mono (C1.out _) ?_
      rintro e w1 ⟨rfl, hb⟩
      replace BB := Lib.hid (Below.andThen BB.out hb)
      clear hb
      go_wp2_with fail
      go_ret2
      exact ⟨rfl, BB.out⟩
    have d1 : decide (In.cmpZ x (-9223372036854775808) < 0) = false := by
      rw [decide_eq_false_iff_not]
      unfold In.cmpZ
      rw [if_neg hlo]
      split <;> decide
    generalize In.cmpZ x (-9223372036854775808) = c1 at *
    by_cases hhi : 9223372036854775807 < x
    · rw [if_neg (by omega)]
      have d2 : decide (0 < In.cmpZ x 9223372036854775807) = true := by
        rw [decide_eq_true_eq]
        unfold In.cmpZ
        rw [if_neg (by omega), if_pos hhi]
        decide
      generalize In.cmpZ x 9223372036854775807 = c2 at *
      clear hx hs hlo hhi
      go_enter Tryz.func20, Tryz.ntmps20
      go_wp2_with fail
      with_reducible refine Calls.mono (V1.out _) ?_
      rintro e w' ⟨rfl, rfl⟩
      go_wp2_with fail
      with_reducible refine Calls.mono (C1.out _) ?_
      rintro e w1 ⟨rfl, hb⟩
      replace BB := Lib.hid (Below.andThen BB.out hb)
      clear hb
      go_wp2_with fail
      with_reducible refine Calls.mono (C2.out _) ?_
      rintro e w2 ⟨rfl, hb⟩
      replace BB := Lib.hid (Below.andThen BB.out hb)
      clear hb
      go_wp2_with fail
      go_ret2
      exact ⟨rfl, BB.out⟩
    rw [if_pos (by omega)]
    have d2 : decide (0 < In.cmpZ x 9223372036854775807) = false := by
      rw [decide_eq_false_iff_not]
      unfold In.cmpZ
      split
      · decide
      · first | decide | (rw [if_neg hhi]; decide)
    generalize In.cmpZ x 9223372036854775807 = c2 at *
    have hl := In.txt_list x
    rw [← (In.num_some hx).1] at hl
    unfold In.txtL Lib.itoa at hl
    unfold maxLen at hs
    have hp : 0 < s.size := by
      have : 0 < s.data.toList.length := by
        rw [hl]
        split
        · simp
        · exact List.length_pos_iff.2 (In.dec_ne _)
      simpa using this
    have i1 := fun (w : World) => run_index_at (P := Tryz.prog) w 9 s .i64 0 rfl hp
    rw [show ((0 : Nat) : Int) = 0 from rfl] at i1
    by_cases hz : x < 0
    · rw [if_pos hz] at hl
      have h45 : (s[0]'hp) = 45 := by
        have h1 := ba_at s 0 hp
        rw [hl] at h1
        exact (Option.some.inj h1).symm
      rw [h45, show ((45 : UInt8).toNat : Int) = 45 from rfl] at i1
      obtain ⟨t, ht⟩ : ∃ t, t = Lib.decDigits x.natAbs := ⟨_, rfl⟩
      rw [← ht] at hl
      have hv : In.val10 t = x.natAbs := by rw [ht, In.dec_val]
      have hdig : ∀ c ∈ t, In.isDig c = true := by rw [ht]; exact In.dec_dig _
      have HT := Lib.hid hl
      have HV := Lib.hid hv
      have HD := Lib.hid hdig
      have hts : t.length + 1 = s.size := by
        have : s.data.toList.length = t.length + 1 := by rw [hl]; rfl
        rw [← this]; simp
      have HTS := Lib.hid hts
      clear hx h45 hl ht hv hdig hts
      go_enter Tryz.func20, Tryz.ntmps20
      go_wp2_with fail
      with_reducible refine Calls.mono (V1.out _) ?_
      rintro e w' ⟨rfl, rfl⟩
      go_wp2_with fail
      with_reducible refine Calls.mono (C1.out _) ?_
      rintro e w1 ⟨rfl, hb⟩
      replace BB := Lib.hid (Below.andThen BB.out hb)
      clear hb
      go_wp2_with fail
      with_reducible refine Calls.mono (C2.out _) ?_
      rintro e w2 ⟨rfl, hb⟩
      replace BB := Lib.hid (Below.andThen BB.out hb)
      clear hb
      go_wp2_with fail
      go_loopw [4, 5] (fun nv iv wr => ∃ (k : Nat) (z : Int), iv = .int .i64 k ∧ nv = .int .i64 z ∧ k ≤ s.size ∧ z = -((In.val10 ((s.data.toList.take k).tail) : Nat) : Int) ∧ wr = w2) (fun _ iv _ => s.size - (intOf iv).toNat)
      case atStart => exact ⟨0, 0, by first | rfl | go_num, by first | rfl | go_num, Nat.zero_le _, by rw [List.take_zero]; rfl, rfl⟩
      case round =>
        obtain ⟨k, z, rfl, rfl, hk, hzv, rfl⟩ := hrel
        by_cases hlt : k < s.size
        · have hc := ba_at s k hlt
          have i2 := fun (w : World) => run_index_at (P := Tryz.prog) w 9 s .i64 k rfl hlt
          rcases Nat.eq_zero_or_pos k with hk0 | hkp
          · subst hk0
            have hz0 : z = 0 := by rw [hzv, List.take_zero]; rfl
            subst hz0
            rw [show ((0 : Nat) : Int) = 0 from rfl]
            clear i2 hc hzv
            go_wp2_with fail
            go_roundw
            case rel => exact ⟨1, 0, by first | rfl | go_num, by first | rfl | go_num, by omega, by rw [HT.out]; rfl, by first | rfl | trivial⟩
            case measure => simp [intOf]; omega
          · obtain ⟨m, hm⟩ : ∃ m, k = m + 1 := ⟨k - 1, by omega⟩
            obtain ⟨cc, hcd⟩ : ∃ cc, cc = s[k]'hlt := ⟨_, rfl⟩
            rw [← hcd] at hc i2
            have hcm : t[m]? = some cc := by
              rw [HT.out, hm, List.getElem?_cons_succ] at hc
              exact hc
            rw [HT.out, hm, List.take_succ_cons, List.tail_cons] at hzv
            have hdig := HD.out _ (List.mem_of_getElem? hcm)
            simp only [In.isDig, Bool.and_eq_true, decide_eq_true_eq] at hdig
            have hn := take_val hcm
            have hle := val10_take_le t (m + 1)
            rw [HV.out, hn] at hle
            have HN := Lib.hid hn
            have HM := Lib.hid hm
            unfold In.dval at HN hle
            generalize In.val10 (t.take m) = acc at *
            generalize cc.toNat = y at *
            have w1 : IntKind.u8.wrap ((y : Int) - 48) = (y : Int) - 48 := by simp [IntKind.wrap, IntKind.bits, IntKind.signed]; omega
            have e1 : decide ((y : Int) = 45) = false := by rw [decide_eq_false_iff_not]; omega
            have e2 : ((y : Int) == 45) = false := by rw [beq_eq_false_iff_ne]; omega
            have HZ := Lib.hid hzv
            have b1 : -9223372036854775808 ≤ 10 * z := by omega
            have b2 : z ≤ 0 := by omega
            have b3 : -9223372036854775808 ≤ 10 * z - ((y : Int) - 48) := by omega
            clear hc hcm hn hzv hle hm hcd
            go_wp2_with fail
            go_roundw
            case rel => exact ⟨k + 1, _, by go_num, rfl, by omega, by (rw [HT.out, List.take_succ_cons, List.tail_cons, HM.out, HN.out, HZ.out]; omega), by first | rfl | trivial⟩
            case measure => simp [intOf]; omega
        · have hzx : z = x := by
            rw [hzv, List.take_of_length_le (by simp; omega), HT.out, List.tail_cons, HV.out]
            omega
          have HZ := Lib.hid hzx
          have d3 : decide ((k : Int) < s.size) = false := by rw [decide_eq_false_iff_not]; omega
          clear hzx hzv
          go_wp2_with fail
          go_ret2
          exact ⟨by rw [HZ.out]; rfl, BB.out⟩
    · rw [if_neg hz] at hl
      have hv : In.val10 s.data.toList = x.toNat := by rw [hl, In.dec_val]
      have hdig : ∀ c ∈ s.data.toList, In.isDig c = true := by rw [hl]; exact In.dec_dig _
      have h46 : ((s[0]'hp).toNat : Int) ≠ 45 := by
        have h1 := hdig _ (List.mem_of_getElem? (ba_at s 0 hp))
        simp only [In.isDig, Bool.and_eq_true, decide_eq_true_eq] at h1
        omega
      generalize (s[0]'hp).toNat = c0 at *
      have f1 : decide ((c0 : Int) = 45) = false := decide_eq_false h46
      have f2 : ((c0 : Int) == 45) = false := by simpa using h46
      have HV := Lib.hid hv
      have HD := Lib.hid hdig
      clear hx hl hv hdig h46
      go_enter Tryz.func20, Tryz.ntmps20
      go_wp2_with fail
      with_reducible refine Calls.mono (V1.out _) ?_
      rintro e w' ⟨rfl, rfl⟩
      go_wp2_with fail
      with_reducible refine Calls.mono (C1.out _) ?_
      rintro e w1 ⟨rfl, hb⟩
      replace BB := Lib.hid (Below.andThen BB.out hb)
      clear hb
      go_wp2_with fail
      with_reducible refine Calls.mono (C2.out _) ?_
      rintro e w2 ⟨rfl, hb⟩
      replace BB := Lib.hid (Below.andThen BB.out hb)
      clear hb
      go_wp2_with fail
      go_loopw [4, 5] (fun nv iv wr => ∃ (k : Nat) (z : Int), iv = .int .i64 k ∧ nv = .int .i64 z ∧ k ≤ s.size ∧ z = ((In.val10 (s.data.toList.take k) : Nat) : Int) ∧ wr = w2) (fun _ iv _ => s.size - (intOf iv).toNat)
      case atStart => exact ⟨0, 0, by first | rfl | go_num, by first | rfl | go_num, Nat.zero_le _, by rw [List.take_zero]; rfl, rfl⟩
      case round =>
        obtain ⟨k, z, rfl, rfl, hk, hzv, rfl⟩ := hrel
        by_cases hlt : k < s.size
        · have hc := ba_at s k hlt
          have i2 := fun (w : World) => run_index_at (P := Tryz.prog) w 9 s .i64 k rfl hlt
          have hdig := HD.out _ (List.mem_of_getElem? hc)
          simp only [In.isDig, Bool.and_eq_true, decide_eq_true_eq] at hdig
          have hn := take_val hc
          have hle := val10_take_le s.data.toList (k + 1)
          rw [HV.out, hn] at hle
          have HN := Lib.hid hn
          unfold In.dval at HN hle
          generalize In.val10 (s.data.toList.take k) = acc at *
          generalize (s[k]'hlt).toNat = y at *
          have w1 : IntKind.u8.wrap ((y : Int) - 48) = (y : Int) - 48 := by simp [IntKind.wrap, IntKind.bits, IntKind.signed]; omega
          have e1 : decide ((y : Int) = 45) = false := by rw [decide_eq_false_iff_not]; omega
          have e2 : ((y : Int) == 45) = false := by rw [beq_eq_false_iff_ne]; omega
          have HZ := Lib.hid hzv
          have b1 : 10 * z ≤ 9223372036854775807 := by omega
          have b2 : 0 ≤ z := by omega
          have b3 : 10 * z + ((y : Int) - 48) ≤ 9223372036854775807 := by omega
          clear hc hn hzv hle
          go_wp2_with fail
          go_roundw
          case rel => exact ⟨k + 1, _, by go_num, rfl, by omega, by (rw [HN.out, HZ.out]; omega), by first | rfl | trivial⟩
          case measure => simp [intOf]; omega
        · have hzx : z = x := by
            rw [hzv, List.take_of_length_le (by simp; omega), HV.out]
            omega
          have HZ := Lib.hid hzx
          have d3 : decide ((k : Int) < s.size) = false := by rw [decide_eq_false_iff_not]; omega
          clear hzx hzv
          go_wp2_with fail
          go_ret2
          exact ⟨by rw [HZ.out]; rfl, BB.out⟩
end Go.Proofs.YtjhnfejlkljkjaaGreatDoor
