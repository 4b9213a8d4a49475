/- The reference: Valid, Make, Of. -/
/- The reference: Make, Of. -/
import Derived.Test.YtlehjmanlccncaaGreatDoorRatGB
import Derived.Test.YtlehjmanlccncaaGreatDoorIntGJ
set_option linter.unusedVariables false
set_option linter.unusedSimpArgs false
namespace Go.Proofs.YtlehjmanlccncaaGreatDoor
open Go.RowKit

theorem some_is {s t : ByteArray} {x y : Int} (hx : In.num s = some x) (hy : In.num t = some y) : (Ra.val (s, t)).isSome = decide (0 < y ∧ In.gcdZ x y = 1) := by
  unfold Ra.val
  rw [hx, hy]
  dsimp only
  by_cases h : 0 < y ∧ Ra.gcdI x y = 1
  · rw [if_pos h, decide_eq_true (p := 0 < y ∧ In.gcdZ x y = 1) h]; rfl
  · rw [if_neg h, decide_eq_false (p := 0 < y ∧ In.gcdZ x y = 1) h]; rfl
set_option maxRecDepth 100000 in
set_option maxHeartbeats 4000000 in
theorem rValid_r (r : ByteArray × ByteArray) (w : World) (h1 : r.1.size ≤ maxLen) (h2 : r.2.size ≤ maxLen) :
    Calls Tryz.prog 30 #[ratV r] w fun e w' => e = .returned (.bool (Ra.val r).isSome) ∧ Below w.heap.size w w' := by
  obtain ⟨s, t⟩ := r
  have BB := Lib.hid (Below.refl w.heap.size w)
  cases hx : In.num s with
  | none =>
    have e : (Ra.val (s, t)).isSome = false := by unfold Ra.val; rw [hx]; rfl
    rw [e]
    have V1 := Lib.hid (fun W => valid_none hx W h1)
    have V2 := Lib.hid (fun W => rvalid_any t W h2)
    generalize In.validL t.data.toList = b2 at *
    clear e hx h1 h2
    cases b2
    all_goals
      go_enter Tryz.func30, Tryz.ntmps30
      go_upto_region 1 with (fail)
      refine wp_named fun w1 hq => ?_
      obtain ⟨bA, ebA⟩ : ∃ b, b = w.heap.size := ⟨_, rfl⟩
      have A := Lib.hid (show Row w1 bA 23 [.string s, .string t] from by rw [hq, ebA]; exact Row.new _ _ _)
      have hb : Below w.heap.size w w1 := by rw [hq]; exact (Below.refl _ _).alloc (Nat.le_refl _) _
      replace BB := Lib.hid (Below.andThen BB.out hb)
      rw [← ebA]
      clear hq hb ebA
      obtain ⟨cA0, cA1⟩ := A.out.two
      have lA := A.out.lt
      go_wp2_with fail
      with_reducible refine Calls.mono (V1.out _) ?_
      rintro e w' ⟨rfl, rfl⟩
      go_wp2_with fail
      with_reducible refine Calls.mono (V2.out _) ?_
      rintro e w' ⟨rfl, rfl⟩
      go_wp2_with fail
      go_ret
      exact ⟨rfl, BB.out⟩
  | some x =>
    have V1 := Lib.hid (fun W => valid_some hx W h1)
    cases hy : In.num t with
    | none =>
      have e : (Ra.val (s, t)).isSome = false := by unfold Ra.val; rw [hx, hy]; rfl
      rw [e]
      have V2 := Lib.hid (fun W => valid_none hy W h2)
      clear e hx hy h1 h2
      go_enter Tryz.func30, Tryz.ntmps30
      go_upto_region 1 with (fail)
      refine wp_named fun w1 hq => ?_
      obtain ⟨bA, ebA⟩ : ∃ b, b = w.heap.size := ⟨_, rfl⟩
      have A := Lib.hid (show Row w1 bA 23 [.string s, .string t] from by rw [hq, ebA]; exact Row.new _ _ _)
      have hb : Below w.heap.size w w1 := by rw [hq]; exact (Below.refl _ _).alloc (Nat.le_refl _) _
      replace BB := Lib.hid (Below.andThen BB.out hb)
      rw [← ebA]
      clear hq hb ebA
      obtain ⟨cA0, cA1⟩ := A.out.two
      have lA := A.out.lt
      go_wp2_with fail
      with_reducible refine Calls.mono (V1.out _) ?_
      rintro e w' ⟨rfl, rfl⟩
      go_wp2_with fail
      with_reducible refine Calls.mono (V2.out _) ?_
      rintro e w' ⟨rfl, rfl⟩
      go_wp2_with fail
      go_ret
      exact ⟨rfl, BB.out⟩
    | some y =>
      have V2 := Lib.hid (fun W => valid_some hy W h2)
      have CC := Lib.hid (fun W => rCompare_any t ⟨#[48]⟩ W h2 (by decide))
      rw [In.cmpS_some hy num0] at CC
      have CG := Lib.hid (fun W => rGcd_any s t W h1 h2)
      rw [In.opS_some hx hy, In.fit_pos (gcd_any_fit (In.num_some hx).2 (In.num_some hy).2)] at CG
      rw [some_is hx hy]
      have hone := one_text (In.gcdZ x y)
      have key : (In.cmpZ y 0 ≤ 0 ∧ ¬ 0 < y) ∨ (In.cmpZ y 0 = 1 ∧ 0 < y) := by
        unfold In.cmpZ
        split
        · exact .inl ⟨by decide, by omega⟩
        · split
          · exact .inr ⟨rfl, by omega⟩
          · exact .inl ⟨by decide, by omega⟩
      clear hx hy h1 h2
      rcases key with ⟨k1, k2⟩ | ⟨k1, k2⟩
      · rw [show decide (0 < y ∧ In.gcdZ x y = 1) = false from decide_eq_false (fun h => k2 h.1)]
        have k1' : decide (In.cmpZ y 0 ≤ 0) = true := decide_eq_true k1
        generalize In.cmpZ y 0 = c at *
        clear k2 hone
        go_enter Tryz.func30, Tryz.ntmps30
        go_upto_region 1 with (fail)
        refine wp_named fun w1 hq => ?_
        obtain ⟨bA, ebA⟩ : ∃ b, b = w.heap.size := ⟨_, rfl⟩
        have A := Lib.hid (show Row w1 bA 23 [.string s, .string t] from by rw [hq, ebA]; exact Row.new _ _ _)
        have hb : Below w.heap.size w w1 := by rw [hq]; exact (Below.refl _ _).alloc (Nat.le_refl _) _
        replace BB := Lib.hid (Below.andThen BB.out hb)
        rw [← ebA]
        clear hq hb ebA
        obtain ⟨cA0, cA1⟩ := A.out.two
        have lA := A.out.lt
        go_wp2_with fail
        with_reducible refine Calls.mono (V1.out _) ?_
        rintro e w' ⟨rfl, rfl⟩
        go_wp2_with fail
        with_reducible refine Calls.mono (V2.out _) ?_
        rintro e w' ⟨rfl, rfl⟩
        go_wp2_with fail
        with_reducible refine Calls.mono (CC.out _) ?_
        rintro e w2 ⟨rfl, hb⟩
        replace A := Lib.hid (A.out.next hb)
        replace BB := Lib.hid (Below.andThen BB.out hb)
        clear hb
        go_wp2_with fail
        go_ret
        exact ⟨rfl, BB.out⟩
      · rw [show decide (0 < y ∧ In.gcdZ x y = 1) = decide (In.gcdZ x y = 1) from decide_eq_decide.2 ⟨fun h => h.2, fun h => ⟨k2, h⟩⟩]
        rw [k1] at CC
        clear k1 k2
        generalize decide (In.gcdZ x y = 1) = V at *
        dsimp only at CG
        generalize In.txt (In.gcdZ x y) = G at *
        cases V
        all_goals
          go_enter Tryz.func30, Tryz.ntmps30
          go_upto_region 1 with (fail)
          refine wp_named fun w1 hq => ?_
          obtain ⟨bA, ebA⟩ : ∃ b, b = w.heap.size := ⟨_, rfl⟩
          have A := Lib.hid (show Row w1 bA 23 [.string s, .string t] from by rw [hq, ebA]; exact Row.new _ _ _)
          have hb : Below w.heap.size w w1 := by rw [hq]; exact (Below.refl _ _).alloc (Nat.le_refl _) _
          replace BB := Lib.hid (Below.andThen BB.out hb)
          rw [← ebA]
          clear hq hb ebA
          obtain ⟨cA0, cA1⟩ := A.out.two
          have lA := A.out.lt
          go_wp2_with fail
          with_reducible refine Calls.mono (V1.out _) ?_
          rintro e w' ⟨rfl, rfl⟩
          go_wp2_with fail
          with_reducible refine Calls.mono (V2.out _) ?_
          rintro e w' ⟨rfl, rfl⟩
          go_wp2_with fail
          clear cA0 cA1 lA
          with_reducible refine Calls.mono (CC.out _) ?_
          rintro e w2 ⟨rfl, hb⟩
          replace A := Lib.hid (A.out.next hb)
          replace BB := Lib.hid (Below.andThen BB.out hb)
          clear hb
          obtain ⟨cA0, cA1⟩ := A.out.two
          have lA := A.out.lt
          go_wp2_with fail
          with_reducible refine Calls.mono (CG.out _) ?_
          rintro e w3 ⟨rfl, hb⟩
          replace A := Lib.hid (A.out.next hb)
          replace BB := Lib.hid (Below.andThen BB.out hb)
          clear hb
          go_wp2_with fail
          go_ret
          exact ⟨rfl, BB.out⟩
end Go.Proofs.YtlehjmanlccncaaGreatDoor
set_option linter.unusedVariables false
set_option linter.unusedSimpArgs false
namespace Go.Proofs.YtlehjmanlccncaaGreatDoor
open Go.RowKit

/-- both signs changed, where the denominator is negative -/
def turnN (x y : Int) : Int := if y < 0 then -x else x
def turnD (y : Int) : Int := if y < 0 then -y else y
theorem turn_div {x y : Int} (h0 : y ≠ 0) : turnN x y / In.gcdZ (turnN x y) (turnD y) = Ra.redN x y ∧ turnD y / In.gcdZ (turnN x y) (turnD y) = Ra.redD x y ∧ In.gcdZ (turnN x y) (turnD y) ≠ 0 := by
  have hg : In.gcdZ (turnN x y) (turnD y) = Ra.gcdI x y := by
    unfold turnN turnD
    split
    · show Ra.gcdI (-x) (-y) = _
      rw [Ra.gcd_neg_left, Ra.gcd_neg_right]
    · rfl
  rw [hg]
  refine ⟨?_, ?_, Ra.gcd_ne h0⟩
  · unfold turnN Ra.redN
    obtain ⟨p, hp⟩ := Ra.gcd_left x y
    split
    · exact Int.neg_ediv_of_dvd ⟨p, hp⟩
    · rfl
  · unfold turnD Ra.redD
    obtain ⟨p, hp⟩ := Ra.gcd_right x y
    split
    · exact Int.neg_ediv_of_dvd ⟨p, hp⟩
    · rfl
theorem txt_le {z : Int} (h : In.Fit z) : (In.txt z).size ≤ maxLen := Nat.le_trans (num_size (In.num_fit h)) (by decide)
theorem neg_fit {z : Int} (h : In.Fit z) : In.Fit (-z) := by show Int.natAbs (-z) < _; rw [Int.natAbs_neg]; exact h
theorem rSub_0 {z : Int} (h : In.Fit z) (W : World) : Calls Tryz.prog 49 #[.string ⟨#[48]⟩, .string (In.txt z)] W fun e w' => e = .returned (.tuple #[.string (In.txt (-z)), .int .i64 0]) ∧ Below W.heap.size W w' := by
  have k := rSub_any ⟨#[48]⟩ (In.txt z) W (by decide) (txt_le h)
  rw [In.opS_some num0 (In.num_fit h), show (0 : Int) - z = -z from Int.zero_sub z, In.fit_pos (neg_fit h)] at k
  exact k
theorem rGcd_t {x y : Int} (hx : In.Fit x) (hy : In.Fit y) (W : World) : Calls Tryz.prog 60 #[.string (In.txt x), .string (In.txt y)] W fun e w' => e = .returned (.tuple #[.string (In.txt (In.gcdZ x y)), .int .i64 0]) ∧ Below W.heap.size W w' := by
  have k := rGcd_any (In.txt x) (In.txt y) W (txt_le hx) (txt_le hy)
  rw [In.opS_some (In.num_fit hx) (In.num_fit hy), In.fit_pos (gcd_any_fit hx hy)] at k
  exact k
theorem rDiv_t {x y : Int} (hx : In.Fit x) (hy : In.Fit y) (h0 : y ≠ 0) (W : World) : Calls Tryz.prog 52 #[.string (In.txt x), .string (In.txt y)] W fun e w' => e = .returned (.tuple #[.string (In.txt (x / y)), .string (In.txt (x % y)), .int .i64 0]) ∧ Below W.heap.size W w' := by
  have k := rDiv_any (In.txt x) (In.txt y) W (txt_le hx) (txt_le hy)
  rw [divS_fit (In.num_fit hx) (In.num_fit hy) h0 hx] at k
  exact k
set_option maxRecDepth 100000 in
set_option maxHeartbeats 4000000 in
theorem rMake_r (n d : ByteArray) (w : World) (h1 : n.size ≤ maxLen) (h2 : d.size ≤ maxLen) :
    Calls Tryz.prog 28 #[.string n, .string d] w fun e w' => e = .returned (resV (Ra.makeS n d)) ∧ Below w.heap.size w w' := by
  have HBR := Lib.hid ((Below.refl w.heap.size w).alloc (Nat.le_refl _) (.cells #[.string ⟨#[]⟩, .string ⟨#[]⟩] 23))
  cases hx : In.num n with
  | none =>
    have V1 := Lib.hid (fun W => valid_none hx W h1)
    have V2 := Lib.hid (fun W => rvalid_any d W h2)
    have e : Ra.makeS n d = none := by unfold Ra.makeS; rw [hx]
    rw [e]
    generalize In.validL d.data.toList = b2 at *
    clear hx e h1 h2
    cases b2
    all_goals
      go_enter Tryz.func28, Tryz.ntmps28
      go_wp2_with fail
      with_reducible refine Calls.mono (V1.out _) ?_
      rintro e w' ⟨rfl, rfl⟩
      go_wp2_with fail
      with_reducible refine Calls.mono (V2.out _) ?_
      rintro e w' ⟨rfl, rfl⟩
      go_wp2_with fail
      refine bodyPost_ret (v := .tuple #[.agg #[.string ⟨#[]⟩, .string ⟨#[]⟩], .int .i64 40]) (by first | (simp [results, Tryz.results28, go_sem]; done) | simp [results, Tryz.results28, go_sem, *]) rfl ⟨rfl, HBR.out⟩
  | some x =>
    have V1 := Lib.hid (fun W => valid_some hx W h1)
    cases hy : In.num d with
    | none =>
      have V2 := Lib.hid (fun W => valid_none hy W h2)
      have e : Ra.makeS n d = none := by unfold Ra.makeS; rw [hx, hy]
      rw [e]
      clear hx hy e h1 h2
      go_enter Tryz.func28, Tryz.ntmps28
      go_wp2_with fail
      with_reducible refine Calls.mono (V1.out _) ?_
      rintro e w' ⟨rfl, rfl⟩
      go_wp2_with fail
      with_reducible refine Calls.mono (V2.out _) ?_
      rintro e w' ⟨rfl, rfl⟩
      go_wp2_with fail
      refine bodyPost_ret (v := .tuple #[.agg #[.string ⟨#[]⟩, .string ⟨#[]⟩], .int .i64 40]) (by first | (simp [results, Tryz.results28, go_sem]; done) | simp [results, Tryz.results28, go_sem, *]) rfl ⟨rfl, HBR.out⟩
    | some y =>
      have V2 := Lib.hid (fun W => valid_some hy W h2)
      have hz := lit_is_zero hy
      by_cases h0 : y = 0
      · have e : Ra.makeS n d = none := by unfold Ra.makeS; rw [hx, hy]; exact if_neg (fun k => k.2 h0)
        rw [e]
        rw [decide_eq_true h0] at hz
        clear hx hy e h0 h1 h2
        go_enter Tryz.func28, Tryz.ntmps28
        go_wp2_with fail
        with_reducible refine Calls.mono (V1.out _) ?_
        rintro e w' ⟨rfl, rfl⟩
        go_wp2_with fail
        with_reducible refine Calls.mono (V2.out _) ?_
        rintro e w' ⟨rfl, rfl⟩
        go_wp2_with fail
        refine bodyPost_ret (v := .tuple #[.agg #[.string ⟨#[]⟩, .string ⟨#[]⟩], .int .i64 40]) (by first | (simp [results, Tryz.results28, go_sem]; done) | simp [results, Tryz.results28, go_sem, *]) rfl ⟨rfl, HBR.out⟩
      · have e : Ra.makeS n d = some (Ra.redN x y, Ra.redD x y) := by unfold Ra.makeS; rw [hx, hy]; exact Ra.redO_is trivial h0
        rw [e]
        rw [decide_eq_false h0] at hz
        have CC := Lib.hid (fun W => rCompare_any d ⟨#[48]⟩ W h2 (by decide))
        rw [In.cmpS_some hy num0] at CC
        obtain ⟨rfl, fx⟩ := In.num_some hx
        obtain ⟨rfl, fy⟩ := In.num_some hy
        have S1 := Lib.hid (rSub_0 fx)
        have S2 := Lib.hid (rSub_0 fy)
        obtain ⟨t1, t2, t3⟩ := turn_div (x := x) h0
        have fX : In.Fit (turnN x y) := by unfold turnN; split; exact neg_fit fx; exact fx
        have fY : In.Fit (turnD y) := by unfold turnD; split; exact neg_fit fy; exact fy
        have fG := gcd_any_fit fX fY
        have GG := Lib.hid (rGcd_t fX fY)
        have D1 := Lib.hid (rDiv_t fX fG t3)
        have D2 := Lib.hid (rDiv_t fY fG t3)
        rw [t1] at D1
        rw [t2] at D2
        show Calls _ _ _ w fun e w' => e = .returned (.tuple #[ratV (In.txt (Ra.redN x y), In.txt (Ra.redD x y)), .int .i64 0]) ∧ Below w.heap.size w w'
        have key : (decide (In.cmpZ y 0 < 0) = true ∧ turnN x y = -x ∧ turnD y = -y) ∨ (decide (In.cmpZ y 0 < 0) = false ∧ turnN x y = x ∧ turnD y = y) := by
          unfold turnN turnD In.cmpZ
          split
          · exact .inl ⟨by decide, rfl, rfl⟩
          · split
            · exact .inr ⟨by decide, rfl, rfl⟩
            · exact .inr ⟨by decide, rfl, rfl⟩
        clear hx hy e h0 h1 h2 t1 t2 t3 fX fY fG fx fy
        rcases key with ⟨hc, e1, e2⟩ | ⟨hc, e1, e2⟩
        · rw [e1, e2] at GG D1 D2
          clear e1 e2
          generalize In.txt (Ra.redN x y) = u1 at *
          generalize In.txt (Ra.redD x y) = u2 at *
          generalize In.cmpZ y 0 = c at *
          generalize In.txt (-x) = s1 at *
          generalize In.txt (-y) = s2 at *
          generalize In.txt x = s3 at *
          generalize In.txt y = s4 at *
          go_enter Tryz.func28, Tryz.ntmps28
          go_upto_region 1 with (fail)
          refine wp_named fun w1 hw => ?_
          obtain ⟨b0, hb0⟩ : ∃ x, x = w.heap.size := ⟨_, rfl⟩
          have BB := Lib.hid (show Below w.heap.size w w1 from by rw [hw]; exact HBR.out)
          have Z := Lib.hid (show Row w1 b0 23 [.string ⟨#[]⟩, .string ⟨#[]⟩] from by rw [hw, hb0]; exact Row.new _ _ _)
          have HL := Lib.hid (show w.heap.size ≤ b0 from by rw [hb0]; exact Nat.le_refl _)
          rw [← hb0]
          clear hw hb0 HBR
          go_wp2_with fail
          with_reducible refine Calls.mono (V1.out _) ?_
          rintro e w' ⟨rfl, rfl⟩
          go_wp2_with fail
          with_reducible refine Calls.mono (V2.out _) ?_
          rintro e w' ⟨rfl, rfl⟩
          go_wp2_with fail
          with_reducible refine Calls.mono (CC.out _) ?_
          rintro e w2 ⟨rfl, hb⟩
          replace Z := Lib.hid (Z.out.next hb)
          replace BB := Lib.hid (Below.andThen BB.out hb)
          clear hb
          go_wp2_with fail
          with_reducible refine Calls.mono (S1.out _) ?_
          rintro e w3 ⟨rfl, hb⟩
          replace Z := Lib.hid (Z.out.next hb)
          replace BB := Lib.hid (Below.andThen BB.out hb)
          clear hb
          go_wp2_with fail
          with_reducible refine Calls.mono (S2.out _) ?_
          rintro e w4 ⟨rfl, hb⟩
          replace Z := Lib.hid (Z.out.next hb)
          replace BB := Lib.hid (Below.andThen BB.out hb)
          clear hb
          go_wp2_with fail
          with_reducible refine Calls.mono (GG.out _) ?_
          rintro e w5 ⟨rfl, hb⟩
          replace Z := Lib.hid (Z.out.next hb)
          replace BB := Lib.hid (Below.andThen BB.out hb)
          clear hb
          go_wp2_with fail
          with_reducible refine Calls.mono (D1.out _) ?_
          rintro e w6 ⟨rfl, hb⟩
          replace Z := Lib.hid (Z.out.next hb)
          replace BB := Lib.hid (Below.andThen BB.out hb)
          clear hb
          go_wp2_with fail
          with_reducible refine Calls.mono (D2.out _) ?_
          rintro e w7 ⟨rfl, hb⟩
          replace Z := Lib.hid (Z.out.next hb)
          replace BB := Lib.hid (Below.andThen BB.out hb)
          clear hb
          obtain ⟨cZ0, cZ1⟩ := Z.out.two
          have lZ := Z.out.lt
          have f0 := Z.out.frozen 0
          have f1 := Z.out.frozen 1
          go_wp2_with fail
          refine bodyPost_ret (v := .tuple #[ratV (u1, u2), .int .i64 0]) (by first | (simp [results, Tryz.results28, go_sem]; done) | simp [results, Tryz.results28, go_sem, *]) rfl ⟨rfl, (BB.out.setCell (p := ⟨b0, 0, none⟩) HL.out _).setCell (p := ⟨b0, 1, none⟩) HL.out _⟩
        · rw [e1, e2] at GG D1 D2
          clear e1 e2
          generalize In.txt (Ra.redN x y) = u1 at *
          generalize In.txt (Ra.redD x y) = u2 at *
          generalize In.cmpZ y 0 = c at *
          generalize In.txt (-x) = s1 at *
          generalize In.txt (-y) = s2 at *
          generalize In.txt x = s3 at *
          generalize In.txt y = s4 at *
          go_enter Tryz.func28, Tryz.ntmps28
          go_upto_region 1 with (fail)
          refine wp_named fun w1 hw => ?_
          obtain ⟨b0, hb0⟩ : ∃ x, x = w.heap.size := ⟨_, rfl⟩
          have BB := Lib.hid (show Below w.heap.size w w1 from by rw [hw]; exact HBR.out)
          have Z := Lib.hid (show Row w1 b0 23 [.string ⟨#[]⟩, .string ⟨#[]⟩] from by rw [hw, hb0]; exact Row.new _ _ _)
          have HL := Lib.hid (show w.heap.size ≤ b0 from by rw [hb0]; exact Nat.le_refl _)
          rw [← hb0]
          clear hw hb0 HBR
          go_wp2_with fail
          with_reducible refine Calls.mono (V1.out _) ?_
          rintro e w' ⟨rfl, rfl⟩
          go_wp2_with fail
          with_reducible refine Calls.mono (V2.out _) ?_
          rintro e w' ⟨rfl, rfl⟩
          go_wp2_with fail
          with_reducible refine Calls.mono (CC.out _) ?_
          rintro e w2 ⟨rfl, hb⟩
          replace Z := Lib.hid (Z.out.next hb)
          replace BB := Lib.hid (Below.andThen BB.out hb)
          clear hb
          go_wp2_with fail
          with_reducible refine Calls.mono (GG.out _) ?_
          rintro e w5 ⟨rfl, hb⟩
          replace Z := Lib.hid (Z.out.next hb)
          replace BB := Lib.hid (Below.andThen BB.out hb)
          clear hb
          go_wp2_with fail
          with_reducible refine Calls.mono (D1.out _) ?_
          rintro e w6 ⟨rfl, hb⟩
          replace Z := Lib.hid (Z.out.next hb)
          replace BB := Lib.hid (Below.andThen BB.out hb)
          clear hb
          go_wp2_with fail
          with_reducible refine Calls.mono (D2.out _) ?_
          rintro e w7 ⟨rfl, hb⟩
          replace Z := Lib.hid (Z.out.next hb)
          replace BB := Lib.hid (Below.andThen BB.out hb)
          clear hb
          obtain ⟨cZ0, cZ1⟩ := Z.out.two
          have lZ := Z.out.lt
          have f0 := Z.out.frozen 0
          have f1 := Z.out.frozen 1
          go_wp2_with fail
          refine bodyPost_ret (v := .tuple #[ratV (u1, u2), .int .i64 0]) (by first | (simp [results, Tryz.results28, go_sem]; done) | simp [results, Tryz.results28, go_sem, *]) rfl ⟨rfl, (BB.out.setCell (p := ⟨b0, 0, none⟩) HL.out _).setCell (p := ⟨b0, 1, none⟩) HL.out _⟩
set_option maxRecDepth 100000 in
set_option maxHeartbeats 4000000 in
theorem rOf_r (x y : Int) (w : World) (hx : -9223372036854775808 ≤ x ∧ x ≤ 9223372036854775807) (hy : -9223372036854775808 ≤ y ∧ y ≤ 9223372036854775807) :
    Calls Tryz.prog 32 #[.int .i64 x, .int .i64 y] w fun e w' => e = .returned (resV (Ra.redO True x y)) ∧ Below w.heap.size w w' := by
  have hm : Ra.makeS (In.txt x) (In.txt y) = Ra.redO True x y := by
    unfold Ra.makeS
    rw [In.num_fit (Fit_int hx), In.num_fit (Fit_int hy)]
  have CM := Lib.hid (fun W => rMake_r (In.txt x) (In.txt y) W (txt_le (Fit_int hx)) (txt_le (Fit_int hy)))
  rw [hm] at CM
  have F1 := Lib.hid (fun W => rFromInt_any x W hx)
  have F2 := Lib.hid (fun W => rFromInt_any y W hy)
  obtain ⟨q1, q2, ec, htq⟩ : ∃ (q1 q2 : ByteArray) (ec : Int), resV (Ra.redO True x y) = .tuple #[ratV (q1, q2), .int .i64 ec] := ⟨_, _, _, rfl⟩
  rw [htq] at CM ⊢
  generalize In.txt x = tx at *
  generalize In.txt y = ty at *
  clear htq hm hx hy
  go_enter Tryz.func32, Tryz.ntmps32
  go_upto_region 1 with (fail)
  refine wp_named fun w1 hw => ?_
  obtain ⟨b0, hb0⟩ : ∃ x, x = w.heap.size := ⟨_, rfl⟩
  have BB := Lib.hid (show Below w.heap.size w w1 from by rw [hw]; exact (Below.refl _ _).alloc (Nat.le_refl _) _)
  have Z := Lib.hid (show Row w1 b0 23 [.string ⟨#[]⟩, .string ⟨#[]⟩] from by rw [hw, hb0]; exact Row.new _ _ _)
  have HL := Lib.hid (show w.heap.size ≤ b0 from by rw [hb0]; exact Nat.le_refl _)
  rw [← hb0]
  clear hw hb0
  go_wp2_with fail
  with_reducible refine Calls.mono (F1.out _) ?_
  rintro e w2 ⟨rfl, hb⟩
  replace Z := Lib.hid (Z.out.next hb)
  replace BB := Lib.hid (Below.andThen BB.out hb)
  clear hb
  go_wp2_with fail
  with_reducible refine Calls.mono (F2.out _) ?_
  rintro e w3 ⟨rfl, hb⟩
  replace Z := Lib.hid (Z.out.next hb)
  replace BB := Lib.hid (Below.andThen BB.out hb)
  clear hb
  go_wp2_with fail
  with_reducible refine Calls.mono (CM.out _) ?_
  rintro e w7 ⟨rfl, hb⟩
  replace Z := Lib.hid (Z.out.next hb)
  replace BB := Lib.hid (Below.andThen BB.out hb)
  clear hb
  obtain ⟨cZ0, cZ1⟩ := Z.out.two
  have lZ := Z.out.lt
  have f0 := Z.out.frozen 0
  have f1 := Z.out.frozen 1
  go_wp2_with fail
  refine bodyPost_ret (v := .tuple #[ratV (q1, q2), .int .i64 ec]) (by first | (simp [results, Tryz.results32, go_sem]; done) | simp [results, Tryz.results32, go_sem, *]) rfl ⟨rfl, (BB.out.setCell (p := ⟨b0, 0, none⟩) HL.out _).setCell (p := ⟨b0, 1, none⟩) HL.out _⟩
end Go.Proofs.YtlehjmanlccncaaGreatDoor
