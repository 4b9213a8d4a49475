/- The reference: Compare. -/
import Derived.Test.YtlehjmanlccncaaGreatDoorRatRE
set_option linter.unusedVariables false
set_option linter.unusedSimpArgs false
namespace Go.Proofs.YtlehjmanlccncaaGreatDoor
open Go.RowKit

def oneIf (z : Int) : Int := if z = 0 then 0 else 1
set_option maxHeartbeats 400000 in
theorem zeroOr_r (z : Int) (w : World) : Calls Tryz.prog 54 #[.string (In.txt z)] w fun e w' => e = .returned (.string (In.txt (oneIf z))) ∧ w = w' := by
  have h := zero_text z
  have z1 : In.txt 1 = ⟨#[49]⟩ := ((In.num_some num1).1).symm
  by_cases hz : z = 0
  · rw [decide_eq_true hz] at h
    have e : oneIf z = z := by unfold oneIf; rw [if_pos hz, hz]
    rw [e]
    clear hz e
    generalize In.txt z = s at *
    go_enter Tryz.func54, Tryz.ntmps54
    go_wp2_with fail
    go_ret
    exact ⟨rfl, rfl⟩
  · rw [decide_eq_false hz] at h
    have e : oneIf z = 1 := if_neg hz
    rw [e, z1]
    clear hz e
    generalize In.txt z = s at *
    go_enter Tryz.func54, Tryz.ntmps54
    go_wp2_with fail
    go_ret
    exact ⟨rfl, rfl⟩
theorem cmp_ones {r s : Int} (hr : 0 ≤ r) (hs : 0 ≤ s) (h : r = 0 ∨ s = 0) : In.cmpZ (oneIf r) (oneIf s) = In.cmpZ r s := by
  unfold oneIf In.cmpZ
  split <;> split <;> (repeat' split) <;> omega
theorem rCmp_t {x y : Int} (hx : In.Fit x) (hy : In.Fit y) (W : World) : Calls Tryz.prog 53 #[.string (In.txt x), .string (In.txt y)] W fun e w' => e = .returned (.int .i64 (In.cmpZ x y)) ∧ Below W.heap.size W w' := by
  have k := rCompare_any (In.txt x) (In.txt y) W (txt_le hx) (txt_le hy)
  rwa [In.cmpS_some (In.num_fit hx) (In.num_fit hy)] at k
theorem cmpQ_swap (a b c d : Int) : Ra.cmpQ c d a b = -Ra.cmpQ a b c d := In.cmpZ_turn _ _
def numOf : Value → Nat
  | .string s => ((In.num s).getD 0).toNat
  | _ => 0
theorem numOf_txt {z : Int} (h : In.Fit z) : numOf (.string (In.txt z)) = z.toNat := by
  show ((In.num (In.txt z)).getD 0).toNat = _
  rw [In.num_fit h]
  rfl
theorem fit_div {x : Int} (y : Int) (h : In.Fit x) : In.Fit (x / y) := Nat.lt_of_le_of_lt (In.quo_le x y) h
theorem fit_mod {x y : Int} (hy : 0 < y) (h : In.Fit y) : In.Fit (x % y) := by
  have h1 := Int.emod_nonneg x (show y ≠ 0 by omega)
  have h2 := Int.emod_lt_of_pos x hy
  show Int.natAbs _ < _
  have h3 : y.natAbs < 10 ^ 200 := h
  omega
set_option maxRecDepth 100000 in
set_option maxHeartbeats 8000000 in
theorem rCompare_r (a b : ByteArray × ByteArray) (w : World) (ha1 : a.1.size ≤ maxLen) (ha2 : a.2.size ≤ maxLen) (hb1 : b.1.size ≤ maxLen) (hb2 : b.2.size ≤ maxLen) :
    Calls Tryz.prog 21 #[ratV a, ratV b] w fun e w' => e = .returned (.int .i64 (Ra.cmpO (Ra.val a) (Ra.val b))) ∧ Below w.heap.size w w' := by
  obtain ⟨V1, c1, k1⟩ := val_key a ha1 ha2
  obtain ⟨V2, c2, k2⟩ := val_key b hb1 hb2
  obtain ⟨a1, a2⟩ := a
  obtain ⟨b1, b2⟩ := b
  have CV1 := Lib.hid c1
  have CV2 := Lib.hid c2
  have BB := Lib.hid (Below.refl w.heap.size w)
  clear c1 c2 ha1 ha2 hb1 hb2
  have key : (((V1 = false ∧ V2 = false) ∨ (V1 = false ∧ V2 = true) ∨ (V1 = true ∧ V2 = false)) ∧ Ra.cmpO (Ra.val (a1, a2)) (Ra.val (b1, b2)) = 0) ∨
      (V1 = true ∧ V2 = true ∧ ∃ p q : Int × Int, Ra.Ok p ∧ Ra.Ok q ∧ a1 = In.txt p.1 ∧ a2 = In.txt p.2 ∧ b1 = In.txt q.1 ∧ b2 = In.txt q.2 ∧ Ra.cmpO (Ra.val (a1, a2)) (Ra.val (b1, b2)) = Ra.cmpQ p.1 p.2 q.1 q.2) := by
    rcases k1 with ⟨h1, n1⟩ | ⟨h1, p, hp, op, e1, e2⟩
    · refine .inl ⟨?_, by rw [n1]; rfl⟩
      cases V2
      · exact .inl ⟨h1, rfl⟩
      · exact .inr (.inl ⟨h1, rfl⟩)
    rcases k2 with ⟨h2, n2⟩ | ⟨h2, q, hq, oq, e3, e4⟩
    · exact .inl ⟨.inr (.inr ⟨h1, h2⟩), by rw [n2, hp]; rfl⟩
    · exact .inr ⟨h1, h2, p, q, op, oq, e1, e2, e3, e4, by rw [hp, hq]; rfl⟩
  generalize hC : Ra.cmpO (Ra.val (a1, a2)) (Ra.val (b1, b2)) = C at *
  clear k1 k2 hC
  rcases key with ⟨hv, rfl⟩ | ⟨rfl, rfl, p, q, op, oq, e1, e2, e3, e4, hc⟩
  · rcases hv with ⟨rfl, rfl⟩ | ⟨rfl, rfl⟩ | ⟨rfl, rfl⟩
    all_goals
      go_enter Tryz.func21, Tryz.ntmps21
      go_upto_region 1 with (fail)
      refine wp_named fun w1 hq => ?_
      obtain ⟨r0, r1, hb⟩ := rows2 w 23 23 [.string a1, .string a2] [.string b1, .string b2] w1 hq
      have A := Lib.hid r0
      have B := Lib.hid r1
      generalize w.heap.size + 1 = bB at *
      obtain ⟨bA, ebA⟩ : ∃ b, b = w.heap.size := ⟨_, rfl⟩
      rw [← ebA] at A ⊢
      replace BB := Lib.hid (Below.andThen BB.out hb)
      clear hq hb ebA r0 r1
      obtain ⟨cA0, cA1⟩ := A.out.two
      have lA := A.out.lt
      obtain ⟨cB0, cB1⟩ := B.out.two
      have lB := B.out.lt
      go_wp2_with fail
      clear cA0 cA1 lA cB0 cB1 lB
      with_reducible refine Calls.mono (CV1.out _) ?_
      rintro e w2 ⟨rfl, hb⟩
      replace A := Lib.hid (A.out.next hb)
      replace B := Lib.hid (B.out.next hb)
      replace BB := Lib.hid (Below.andThen BB.out hb)
      clear hb
      obtain ⟨cA0, cA1⟩ := A.out.two
      have lA := A.out.lt
      obtain ⟨cB0, cB1⟩ := B.out.two
      have lB := B.out.lt
      go_wp2_with fail
      clear cA0 cA1 lA cB0 cB1 lB
      with_reducible refine Calls.mono (CV2.out _) ?_
      rintro e w3 ⟨rfl, hb⟩
      replace A := Lib.hid (A.out.next hb)
      replace B := Lib.hid (B.out.next hb)
      replace BB := Lib.hid (Below.andThen BB.out hb)
      clear hb
      go_wp2_with fail
      go_ret
      exact ⟨rfl, BB.out⟩
  · obtain ⟨x0, hx0⟩ : ∃ z, z = p.1 := ⟨_, rfl⟩
    obtain ⟨y0, hy0⟩ : ∃ z, z = p.2 := ⟨_, rfl⟩
    obtain ⟨u0, hu0⟩ : ∃ z, z = q.1 := ⟨_, rfl⟩
    obtain ⟨v0, hv0⟩ : ∃ z, z = q.2 := ⟨_, rfl⟩
    have fx0 := op.num
    have fy0 := op.den
    have fu0 := oq.num
    have fv0 := oq.den
    have py0 := op.low.1
    have pv0 := oq.low.1
    rw [← hx0, ← hy0, ← hu0, ← hv0] at hc
    rw [← hx0] at e1 fx0
    rw [← hy0] at e2 fy0 py0
    rw [← hu0] at e3 fu0
    rw [← hv0] at e4 fv0 pv0
    clear hx0 hy0 hu0 hv0 op oq
    subst e1 e2 e3 e4
    have HI := Lib.hid (And.intro fx0 (And.intro fy0 (And.intro fu0 (And.intro fv0 (And.intro py0 (And.intro pv0 hc))))))
    clear fx0 fy0 fu0 fv0 py0 pv0 hc
    go_enter Tryz.func21, Tryz.ntmps21
    go_upto_region 1 with (fail)
    refine wp_named fun w1 hq => ?_
    obtain ⟨r0, r1, hb⟩ := rows2 w 23 23 [.string (In.txt x0), .string (In.txt y0)] [.string (In.txt u0), .string (In.txt v0)] w1 hq
    have A := Lib.hid r0
    have B := Lib.hid r1
    generalize w.heap.size + 1 = bB at *
    obtain ⟨bA, ebA⟩ : ∃ b, b = w.heap.size := ⟨_, rfl⟩
    rw [← ebA] at A ⊢
    replace BB := Lib.hid (Below.andThen BB.out hb)
    clear hq hb ebA r0 r1
    obtain ⟨cA0, cA1⟩ := A.out.two
    have lA := A.out.lt
    obtain ⟨cB0, cB1⟩ := B.out.two
    have lB := B.out.lt
    go_wp2_with fail
    clear cA0 cA1 lA cB0 cB1 lB
    with_reducible refine Calls.mono (CV1.out _) ?_
    rintro e w2 ⟨rfl, hb⟩
    replace A := Lib.hid (A.out.next hb)
    replace B := Lib.hid (B.out.next hb)
    replace BB := Lib.hid (Below.andThen BB.out hb)
    clear hb
    obtain ⟨cA0, cA1⟩ := A.out.two
    have lA := A.out.lt
    obtain ⟨cB0, cB1⟩ := B.out.two
    have lB := B.out.lt
    go_wp2_with fail
    clear cA0 cA1 lA cB0 cB1 lB
    with_reducible refine Calls.mono (CV2.out _) ?_
    rintro e w3 ⟨rfl, hb⟩
    replace A := Lib.hid (A.out.next hb)
    replace B := Lib.hid (B.out.next hb)
    replace BB := Lib.hid (Below.andThen BB.out hb)
    clear hb
    obtain ⟨cA0, cA1⟩ := A.out.two
    have lA := A.out.lt
    obtain ⟨cB0, cB1⟩ := B.out.two
    have lB := B.out.lt
    go_wp2_with fail
    clear cA0 cA1 lA cB0 cB1 lB
    clear A B CV1 CV2
    go_loopw [7, 8, 9, 10, 11] (fun s7 s8 s9 s10 s11 wr => ∃ sg x y u v : Int, (sg = 1 ∨ sg = -1) ∧ s7 = .int .i64 sg ∧ s8 = .string (In.txt x) ∧ s9 = .string (In.txt y) ∧ s10 = .string (In.txt u) ∧ s11 = .string (In.txt v) ∧ In.Fit x ∧ In.Fit y ∧ In.Fit u ∧ In.Fit v ∧ 0 < y ∧ 0 < v ∧ C = sg * Ra.cmpQ x y u v ∧ Below w.heap.size w wr) (fun _ _ s9 _ _ _ => numOf s9)
    case atStart => exact ⟨1, x0, y0, u0, v0, .inl rfl, rfl, rfl, rfl, rfl, rfl, HI.out.1, HI.out.2.1, HI.out.2.2.1, HI.out.2.2.2.1, HI.out.2.2.2.2.1, HI.out.2.2.2.2.2.1, by rw [HI.out.2.2.2.2.2.2, Int.one_mul], BB.out⟩
    case round =>
      clear HI BB
      obtain ⟨sg, x, y, u, v, hsg, rfl, rfl, rfl, rfl, rfl, fx, fy, fu, fv, py, pv, hc, hB⟩ := hrel
      have BB := Lib.hid hB
      have D1 := Lib.hid (rDiv_t fx fy (show y ≠ 0 by omega))
      have D2 := Lib.hid (rDiv_t fu fv (show v ≠ 0 by omega))
      have CQ := Lib.hid (rCmp_t (fit_div y fx) (fit_div v fu))
      have Z1 := Lib.hid (zeroOr_r (x % y))
      have Z2 := Lib.hid (zeroOr_r (u % v))
      have CZ := Lib.hid (rCmp_t (show In.Fit (oneIf (x % y)) from by unfold oneIf; split <;> decide) (show In.Fit (oneIf (u % v)) from by unfold oneIf; split <;> decide))
      have hr0 := zero_text (x % y)
      have hs0 := zero_text (u % v)
      have rn := Int.emod_nonneg x (show y ≠ 0 by omega)
      have sn := Int.emod_nonneg u (show v ≠ 0 by omega)
      have rl := Int.emod_lt_of_pos x py
      have fr := fit_mod (x := x) py fy
      have fs := fit_mod (x := u) pv fv
      have ci := In.cmpZ_in (x / y) (u / v)
      have zi := In.cmpZ_in (oneIf (x % y)) (oneIf (u % v))
      have hkey : (In.cmpZ (x / y) (u / v) ≠ 0 ∧ C = sg * In.cmpZ (x / y) (u / v)) ∨
          (In.cmpZ (x / y) (u / v) = 0 ∧ (x % y = 0 ∨ u % v = 0) ∧ C = sg * In.cmpZ (oneIf (x % y)) (oneIf (u % v))) ∨
          (In.cmpZ (x / y) (u / v) = 0 ∧ 0 < x % y ∧ 0 < u % v ∧ C = -sg * Ra.cmpQ y (x % y) v (u % v)) := by
        by_cases h : x / y = u / v
        · have h0 := (In.cmpZ_zero (x / y) (u / v)).2 h
          by_cases h1 : x % y = 0 ∨ u % v = 0
          · refine .inr (.inl ⟨h0, h1, ?_⟩)
            rw [hc, Ra.cmpQ_zero py pv h h1, cmp_ones rn sn h1]
          · refine .inr (.inr ⟨h0, by omega, by omega, ?_⟩)
            rw [hc, Ra.cmpQ_turn h, cmpQ_swap y (x % y) v (u % v), Int.neg_mul, Int.mul_neg]
        · exact .inl ⟨fun k => h ((In.cmpZ_zero _ _).1 k), by rw [hc, Ra.cmpQ_whole py pv h]⟩
      have HM := Lib.hid (show numOf (.string (In.txt (x % y))) < numOf (.string (In.txt y)) from by rw [numOf_txt fr, numOf_txt fy]; omega)
      have HF := Lib.hid (And.intro fr (And.intro fs (And.intro fy fv)))
      clear hc hB fx fu fy fv fr fs rn sn rl py pv
      generalize x / y = qa at *
      generalize u / v = qb at *
      generalize x % y = ra at *
      generalize u % v = rb at *
      generalize In.cmpZ qa qb = cq at *
      generalize In.cmpZ (oneIf ra) (oneIf rb) = cz at *
      rcases hkey with ⟨h1, h2⟩ | ⟨rfl, h1, h2⟩ | ⟨rfl, h1, h2, h3⟩
      · rcases hsg with rfl | rfl
        all_goals
          first | rw [Int.one_mul] at h2 | rw [Int.neg_mul, Int.one_mul] at h2
          have d1 : decide (cq = 0) = false := decide_eq_false h1
          have d2 : (cq == 0) = false := by rw [beq_eq_false_iff_ne]; exact h1
          subst h2
          clear h1 hr0 hs0 HM HF
          go_wp2_with fail
          with_reducible refine Calls.mono (D1.out _) ?_
          rintro e w4 ⟨rfl, hb⟩
          replace BB := Lib.hid (Below.andThen BB.out hb)
          clear hb
          go_wp2_with fail
          with_reducible refine Calls.mono (D2.out _) ?_
          rintro e w5 ⟨rfl, hb⟩
          replace BB := Lib.hid (Below.andThen BB.out hb)
          clear hb
          go_wp2_with fail
          with_reducible refine Calls.mono (CQ.out _) ?_
          rintro e w6 ⟨rfl, hb⟩
          replace BB := Lib.hid (Below.andThen BB.out hb)
          clear hb
          go_wp2_with fail
          go_ret
          exact ⟨rfl, BB.out⟩
      · have hd : (decide (ra = 0) = true) ∨ (decide (ra = 0) = false ∧ decide (rb = 0) = true) := by
          by_cases k : ra = 0
          · exact .inl (decide_eq_true k)
          · exact .inr ⟨decide_eq_false k, decide_eq_true (h1.resolve_left k)⟩
        have HD := Lib.hid hd
        clear h1 hd HM HF
        rcases hsg with rfl | rfl
        all_goals
          first | rw [Int.one_mul] at h2 | rw [Int.neg_mul, Int.one_mul] at h2
          subst h2
          rcases HD.out with hd | ⟨hd, hd2⟩
        all_goals
          rw [hd] at hr0
          try rw [hd2] at hs0
          clear HD hd
          generalize In.txt ra = sra at *
          generalize In.txt rb = srb at *
          go_wp2_with fail
          with_reducible refine Calls.mono (D1.out _) ?_
          rintro e w4 ⟨rfl, hb⟩
          replace BB := Lib.hid (Below.andThen BB.out hb)
          clear hb
          go_wp2_with fail
          with_reducible refine Calls.mono (D2.out _) ?_
          rintro e w5 ⟨rfl, hb⟩
          replace BB := Lib.hid (Below.andThen BB.out hb)
          clear hb
          go_wp2_with fail
          with_reducible refine Calls.mono (CQ.out _) ?_
          rintro e w6 ⟨rfl, hb⟩
          replace BB := Lib.hid (Below.andThen BB.out hb)
          clear hb
          go_wp2_with fail
          with_reducible refine Calls.mono (Z1.out _) ?_
          rintro e w' ⟨rfl, rfl⟩
          go_wp2_with fail
          with_reducible refine Calls.mono (Z2.out _) ?_
          rintro e w' ⟨rfl, rfl⟩
          go_wp2_with fail
          with_reducible refine Calls.mono (CZ.out _) ?_
          rintro e w7 ⟨rfl, hb⟩
          replace BB := Lib.hid (Below.andThen BB.out hb)
          clear hb
          go_wp2_with fail
          go_ret
          exact ⟨rfl, BB.out⟩
      · rw [decide_eq_false (show ¬ ra = 0 by omega)] at hr0
        rw [decide_eq_false (show ¬ rb = 0 by omega)] at hs0
        have H3 := Lib.hid h3
        have HP := Lib.hid (And.intro h1 h2)
        have HSG := Lib.hid (show -sg = 1 ∨ -sg = -1 by omega)
        clear h1 h2 h3 Z1 Z2 CZ zi
        have hsb : -1 ≤ sg ∧ sg ≤ 1 := by omega
        clear hsg
        go_wp2_with fail
        with_reducible refine Calls.mono (D1.out _) ?_
        rintro e w4 ⟨rfl, hb⟩
        replace BB := Lib.hid (Below.andThen BB.out hb)
        clear hb
        go_wp2_with fail
        with_reducible refine Calls.mono (D2.out _) ?_
        rintro e w5 ⟨rfl, hb⟩
        replace BB := Lib.hid (Below.andThen BB.out hb)
        clear hb
        go_wp2_with fail
        with_reducible refine Calls.mono (CQ.out _) ?_
        rintro e w6 ⟨rfl, hb⟩
        replace BB := Lib.hid (Below.andThen BB.out hb)
        clear hb
        go_wp2_with fail
        go_roundw
        case rel => exact ⟨-sg, y, ra, v, rb, HSG.out, rfl, rfl, rfl, rfl, rfl, HF.out.2.2.1, HF.out.1, HF.out.2.2.2, HF.out.2.1, HP.out.1, HP.out.2, H3.out, BB.out⟩
        case measure => exact HM.out
end Go.Proofs.YtlehjmanlccncaaGreatDoor
