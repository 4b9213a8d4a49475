/- The reference implementation: sums, differences and products of texts; order. -/
/- The reference implementation: Add, Sub, Mul, Compare. -/
/- The reference implementation: Div, Gcd. -/
import Derived.Test.YtjhnfejlkljkjaaGreatDoorIntRHI
import Derived.Test.YtjhnfejlkljkjaaGreatDoorIntZC
namespace Go.Proofs.YtjhnfejlkljkjaaGreatDoor
open Go.RowKit

theorem dg_fit {n : Nat} {s : Bool} : In.Fit (In.sgn n s) ↔ (In.dg n).length ≤ 200 := by
  show Int.natAbs (In.sgn n s) < 10 ^ 200 ↔ _
  rw [In.sgn_abs]
  exact (In.gr_len_iff (by decide) n 200).symm
theorem fit_dg {z : Int} (h : In.Fit z) : (In.dg z.natAbs).length ≤ 200 := In.dg_len_le h
set_option maxRecDepth 100000 in
set_option maxHeartbeats 2000000 in
theorem rchecked_any (s : Bool) (v : Value) (n : Nat) (w : World) (hv : DSl w v n) (hl : (In.dg n).length ≤ 1000) :
    Calls Tryz.prog 35 #[.bool s, v] w fun e w' => e = .returned (.tuple #[.string (In.fit (In.sgn n s)).1, .int .i64 (In.fit (In.sgn n s)).2]) ∧ Below w.heap.size w w' := by
  have CT := Lib.hid (rtext_any v n s w hv hl)
  have key : (decide ((In.dg n).length ≤ 200) = true ∧ In.fit (In.sgn n s) = (In.txt (In.sgn n s), 0)) ∨ (decide ((In.dg n).length ≤ 200) = false ∧ In.fit (In.sgn n s) = (⟨#[]⟩, 30)) := by
    by_cases h : (In.dg n).length ≤ 200
    · exact .inl ⟨decide_eq_true h, In.fit_pos (dg_fit.2 h)⟩
    · exact .inr ⟨decide_eq_false h, In.fit_neg (fun h' => h (dg_fit.1 h'))⟩
  obtain ⟨o, c, rfl, _⟩ := hv.ex
  generalize hL : (In.dg n).length = L at *
  clear hL hl hv
  rcases key with ⟨k1, k2⟩ | ⟨k1, k2⟩
  all_goals
    rw [k2]
    rw [k1] at CT
    generalize In.txt (In.sgn n s) = S at *
    clear k1 k2
    go_enter Tryz.func35, Tryz.ntmps35
    go_wp2_with fail
    with_reducible refine Calls.mono CT.out ?_
    rintro e w2 ⟨rfl, hb⟩
    have HB := Lib.hid hb
    clear hb
    go_wp2_with fail
    go_ret2
    exact ⟨rfl, HB.out⟩
theorem cmpN_ge (a b : Nat) : decide (0 ≤ In.cmpN a b) = decide (b ≤ a) := by
  unfold In.cmpN
  split
  · rw [decide_eq_false (by omega), decide_eq_false (by omega)]
  · split
    · rw [decide_eq_true (by omega), decide_eq_true (by omega)]
    · rw [decide_eq_true (by omega), decide_eq_true (by omega)]
set_option maxRecDepth 100000 in
set_option maxHeartbeats 4000000 in
theorem rsum_any (x y : Bool) (u v : Value) (a b : Nat) (w : World) (hu : DSl w u a) (hv : DSl w v b) (ha : (In.dg a).length ≤ 400) (hb : (In.dg b).length ≤ 400) :
    Calls Tryz.prog 31 #[.bool x, u, .bool y, v] w fun e w' => e = .returned (.tuple #[.string (In.fit (In.sgn a x + In.sgn b y)).1, .int .i64 (In.fit (In.sgn a x + In.sgn b y)).2]) ∧ Below w.heap.size w w' := by
  have CP := Lib.hid (rplus_any u v a b w hu hv (by omega) (by omega))
  have CO := Lib.hid (rorder_any u v a b w hu hv (by omega) (by omega))
  have HU := Lib.hid (And.intro hu hv)
  have hab := In.dg_len_add a b
  have hge := cmpN_ge a b
  obtain ⟨o, c, rfl, _⟩ := hu.ex
  obtain ⟨o', c', rfl, _⟩ := hv.ex
  have HL := Lib.hid (And.intro ha hb)
  have CM := Lib.hid (fun W (h : Below w.heap.size w W) (hba : b ≤ a) => rminus_any _ _ a b W (hu.next h) (hv.next h) (by omega) hba)
  have CN := Lib.hid (fun W (h : Below w.heap.size w W) (hab : a ≤ b) => rminus_any _ _ b a W (hv.next h) (hu.next h) (by omega) hab)
  have lm := Lib.hid (fun (h : b ≤ a) => Nat.le_trans (In.dg_mono (Nat.sub_le a b)) (show (In.dg a).length ≤ 1000 by omega))
  have ln := Lib.hid (fun (h : a ≤ b) => Nat.le_trans (In.dg_mono (Nat.sub_le b a)) (show (In.dg b).length ≤ 1000 by omega))
  have lp : (In.dg (a + b)).length ≤ 1000 := by omega
  by_cases hxy : x = y
  · subst hxy
    rw [In.sgn_plus]
    have CC := Lib.hid (fun W v h => rchecked_any x v (a + b) W h lp)
    generalize In.fit (In.sgn (a + b) x) = R at *
    obtain ⟨R1, R2⟩ := R
    generalize (In.dg a).length = LA at *
    generalize (In.dg b).length = LB at *
    clear hu hv ha hb hab lp CM CN CO hge
    cases x
    all_goals
      go_enter Tryz.func31, Tryz.ntmps31
      go_wp2_with fail
      with_reducible refine Calls.mono CP.out ?_
      rintro e w2 ⟨r, rfl, hn, hb⟩
      have HB := Lib.hid hb
      have CC2 := Lib.hid (CC.out w2 r hn)
      obtain ⟨o3, c3, rfl, _⟩ := hn.ex
      generalize (In.dg (a + b)).length = LR at *
      clear hb hn
      go_wp2_with fail
      with_reducible refine Calls.mono CC2.out ?_
      rintro e w3 ⟨rfl, hb⟩
      have HB2 := Lib.hid (Below.andThen HB.out hb)
      clear hb
      go_wp2_with fail
      go_ret2
      exact ⟨rfl, HB2.out⟩
  · rcases Nat.lt_or_ge a b with hlt | hgt
    · rw [In.sgn_less hxy hlt]
      rw [decide_eq_false (p := b ≤ a) (by omega)] at hge
      have CC := Lib.hid (fun W v h => rchecked_any y v (b - a) W h (ln.out (by omega)))
      generalize In.fit (In.sgn (b - a) y) = R at *
      obtain ⟨R1, R2⟩ := R
      have CN2 := Lib.hid (fun W h => CN.out W h (by omega))
      generalize (In.dg a).length = LA at *
      generalize (In.dg b).length = LB at *
      generalize In.cmpN a b = cm at *
      clear hu hv ha hb hab lp CM CN CP hlt lm ln
      cases x
      all_goals
        cases y
        all_goals
          first
          | exact absurd rfl hxy
          | (clear hxy
             go_enter Tryz.func31, Tryz.ntmps31
             go_wp2_with fail
             with_reducible refine Calls.mono CO.out ?_
             rintro e w2 ⟨rfl, hb⟩
             have HB := Lib.hid hb
             clear hb
             go_wp2_with fail
             with_reducible refine Calls.mono (CN2.out _ HB.out) ?_
             rintro e w3 ⟨r, rfl, hn, hb⟩
             have HB2 := Lib.hid (Below.andThen HB.out hb)
             have CC2 := Lib.hid (CC.out w3 r hn)
             obtain ⟨o3, c3, rfl, _⟩ := hn.ex
             generalize (In.dg (b - a)).length = LR at *
             clear hb hn
             go_wp2_with fail
             with_reducible refine Calls.mono CC2.out ?_
             rintro e w4 ⟨rfl, hb⟩
             have HB3 := Lib.hid (Below.andThen HB2.out hb)
             clear hb
             go_wp2_with fail
             go_ret2
             exact ⟨rfl, HB3.out⟩)
    · rw [In.sgn_more hxy hgt]
      rw [decide_eq_true (p := b ≤ a) hgt] at hge
      have CC := Lib.hid (fun W v h => rchecked_any x v (a - b) W h (lm.out hgt))
      generalize In.fit (In.sgn (a - b) x) = R at *
      obtain ⟨R1, R2⟩ := R
      have CN2 := Lib.hid (fun W h => CM.out W h hgt)
      generalize (In.dg a).length = LA at *
      generalize (In.dg b).length = LB at *
      generalize In.cmpN a b = cm at *
      clear hu hv ha hb hab lp CM CN CP hgt lm ln
      cases x
      all_goals
        cases y
        all_goals
          first
          | exact absurd rfl hxy
          | (clear hxy
             go_enter Tryz.func31, Tryz.ntmps31
             go_wp2_with fail
             with_reducible refine Calls.mono CO.out ?_
             rintro e w2 ⟨rfl, hb⟩
             have HB := Lib.hid hb
             clear hb
             go_wp2_with fail
             with_reducible refine Calls.mono (CN2.out _ HB.out) ?_
             rintro e w3 ⟨r, rfl, hn, hb⟩
             have HB2 := Lib.hid (Below.andThen HB.out hb)
             have CC2 := Lib.hid (CC.out w3 r hn)
             obtain ⟨o3, c3, rfl, _⟩ := hn.ex
             generalize (In.dg (a - b)).length = LR at *
             clear hb hn
             go_wp2_with fail
             with_reducible refine Calls.mono CC2.out ?_
             rintro e w4 ⟨rfl, hb⟩
             have HB3 := Lib.hid (Below.andThen HB2.out hb)
             clear hb
             go_wp2_with fail
             go_ret2
             exact ⟨rfl, HB3.out⟩)
end Go.Proofs.YtjhnfejlkljkjaaGreatDoor
namespace Go.Proofs.YtjhnfejlkljkjaaGreatDoor
open Go.RowKit

theorem valid_none {s : ByteArray} (h : In.num s = none) (w : World) (hs : s.size ≤ maxLen) : Calls Tryz.prog 22 #[.string s] w fun e w' => e = .returned (.bool false) ∧ w = w' := by
  have := rvalid_any s w hs
  rwa [In.num_none.1 h] at this
theorem valid_some {s : ByteArray} {x : Int} (h : In.num s = some x) (w : World) (hs : s.size ≤ maxLen) : Calls Tryz.prog 22 #[.string s] w fun e w' => e = .returned (.bool true) ∧ w = w' := by
  have := rvalid_any s w hs
  rwa [← In.num_isSome, h] at this
theorem fit_abs {s : ByteArray} {x : Int} (h : In.num s = some x) : (In.dg x.natAbs).length ≤ 200 := fit_dg (In.num_some h).2
set_option maxRecDepth 100000 in
set_option maxHeartbeats 4000000 in
theorem rAdd_any (a b : ByteArray) (w : World) (ha : a.size ≤ maxLen) (hb : b.size ≤ maxLen) :
    Calls Tryz.prog 8 #[.string a, .string b] w fun e w' => e = .returned (.tuple #[.string (In.opS (fun x y => x + y) a b).1, .int .i64 (In.opS (fun x y => x + y) a b).2]) ∧ Below w.heap.size w w' := by
  cases hx : In.num a with
  | none =>
    have V1 := Lib.hid (fun W => valid_none hx W ha)
    rw [In.opS_left hx]
    clear hx ha hb
    go_enter Tryz.func8, Tryz.ntmps8
    go_wp2_with fail
    with_reducible refine Calls.mono (V1.out _) ?_
    rintro e w' ⟨rfl, rfl⟩
    go_wp2_with fail
    go_ret2
    exact ⟨rfl, Below.refl _ _⟩
  | some x =>
    have V1 := Lib.hid (fun W => valid_some hx W ha)
    cases hy : In.num b with
    | none =>
      have V2 := Lib.hid (fun W => valid_none hy W hb)
      rw [In.opS_right hy]
      clear hx hy ha hb
      go_enter Tryz.func8, Tryz.ntmps8
      go_wp2_with fail
      with_reducible refine Calls.mono (V1.out _) ?_
      rintro e w' ⟨rfl, rfl⟩
      go_wp2_with fail
      with_reducible refine Calls.mono (V2.out _) ?_
      rintro e w' ⟨rfl, rfl⟩
      go_wp2_with fail
      go_ret2
      exact ⟨rfl, Below.refl _ _⟩
    | some y =>
      have V2 := Lib.hid (fun W => valid_some hy W hb)
      rw [In.opS_some hx hy]
      have lx := fit_abs hx
      have ly := fit_abs hy
      have D1 := Lib.hid (fun W => rdigits_any a x W hx)
      have D2 := Lib.hid (fun W => rdigits_any b y W hy)
      have e : In.sgn x.natAbs (In.neg x) + In.sgn y.natAbs (In.neg y) = x + y := by
        have h1 := In.sgn_neg x
        have h2 := In.sgn_neg y
        have h3 := In.sgn_minus y.natAbs (In.neg y)
        rw [h2] at h3
        first | (rw [h1, h2]; done) | (rw [h1, ← h3]; rfl)
      have CS := Lib.hid (fun W u v (hu : DSl W u x.natAbs) (hv : DSl W v y.natAbs) => rsum_any (In.neg x) (In.neg y) u v _ _ W hu hv (by omega) (by omega))
      rw [e] at CS
      show Calls _ _ _ w fun e w' => e = .returned (.tuple #[.string (In.fit (x + y)).1, .int .i64 (In.fit (x + y)).2]) ∧ Below w.heap.size w w'
      generalize In.fit (x + y) = R at *
      obtain ⟨R1, R2⟩ := R
      clear e lx ly hx hy ha hb
      generalize x.natAbs = X at *
      generalize y.natAbs = Y at *
      generalize In.neg x = nx at *
      generalize In.neg y = ny at *
      go_enter Tryz.func8, Tryz.ntmps8
      go_wp2_with fail
      with_reducible refine Calls.mono (V1.out _) ?_
      rintro e w' ⟨rfl, rfl⟩
      go_wp2_with fail
      with_reducible refine Calls.mono (V2.out _) ?_
      rintro e w' ⟨rfl, rfl⟩
      go_wp2_with fail
      with_reducible refine Calls.mono (D1.out _) ?_
      rintro e w1 ⟨u, rfl, hu, hb⟩
      have HU := Lib.hid (And.intro hu hb)
      clear hu hb
      go_wp2_with fail
      with_reducible refine Calls.mono (D2.out _) ?_
      rintro e w2 ⟨v, rfl, hv, hb⟩
      have HV := Lib.hid (And.intro hv (And.intro (HU.out.1.next hb) (Below.andThen HU.out.2 hb)))
      clear hv hb
      go_wp2_with fail
      with_reducible refine Calls.mono (CS.out _ _ _ HV.out.2.1 HV.out.1) ?_
      rintro e w3 ⟨rfl, hb⟩
      have HB := Lib.hid (Below.andThen HV.out.2.2 hb)
      clear hb
      go_wp2_with fail
      go_ret2
      exact ⟨rfl, HB.out⟩
set_option maxRecDepth 100000 in
set_option maxHeartbeats 4000000 in
theorem rSub_any (a b : ByteArray) (w : World) (ha : a.size ≤ maxLen) (hb : b.size ≤ maxLen) :
    Calls Tryz.prog 10 #[.string a, .string b] w fun e w' => e = .returned (.tuple #[.string (In.opS (fun x y => x - y) a b).1, .int .i64 (In.opS (fun x y => x - y) a b).2]) ∧ Below w.heap.size w w' := by
  cases hx : In.num a with
  | none =>
    have V1 := Lib.hid (fun W => valid_none hx W ha)
    rw [In.opS_left hx]
    clear hx ha hb
    go_enter Tryz.func10, Tryz.ntmps10
    go_wp2_with fail
    with_reducible refine Calls.mono (V1.out _) ?_
    rintro e w' ⟨rfl, rfl⟩
    go_wp2_with fail
    go_ret2
    exact ⟨rfl, Below.refl _ _⟩
  | some x =>
    have V1 := Lib.hid (fun W => valid_some hx W ha)
    cases hy : In.num b with
    | none =>
      have V2 := Lib.hid (fun W => valid_none hy W hb)
      rw [In.opS_right hy]
      clear hx hy ha hb
      go_enter Tryz.func10, Tryz.ntmps10
      go_wp2_with fail
      with_reducible refine Calls.mono (V1.out _) ?_
      rintro e w' ⟨rfl, rfl⟩
      go_wp2_with fail
      with_reducible refine Calls.mono (V2.out _) ?_
      rintro e w' ⟨rfl, rfl⟩
      go_wp2_with fail
      go_ret2
      exact ⟨rfl, Below.refl _ _⟩
    | some y =>
      have V2 := Lib.hid (fun W => valid_some hy W hb)
      rw [In.opS_some hx hy]
      have lx := fit_abs hx
      have ly := fit_abs hy
      have D1 := Lib.hid (fun W => rdigits_any a x W hx)
      have D2 := Lib.hid (fun W => rdigits_any b y W hy)
      have e : In.sgn x.natAbs (In.neg x) + In.sgn y.natAbs (!In.neg y) = x - y := by
        have h1 := In.sgn_neg x
        have h2 := In.sgn_neg y
        have h3 := In.sgn_minus y.natAbs (In.neg y)
        rw [h2] at h3
        first | (rw [h1, h2]; done) | (rw [h1, ← h3]; rfl)
      have CS := Lib.hid (fun W u v (hu : DSl W u x.natAbs) (hv : DSl W v y.natAbs) => rsum_any (In.neg x) (!In.neg y) u v _ _ W hu hv (by omega) (by omega))
      rw [e] at CS
      show Calls _ _ _ w fun e w' => e = .returned (.tuple #[.string (In.fit (x - y)).1, .int .i64 (In.fit (x - y)).2]) ∧ Below w.heap.size w w'
      generalize In.fit (x - y) = R at *
      obtain ⟨R1, R2⟩ := R
      clear e lx ly hx hy ha hb
      generalize x.natAbs = X at *
      generalize y.natAbs = Y at *
      generalize In.neg x = nx at *
      generalize In.neg y = ny at *
      go_enter Tryz.func10, Tryz.ntmps10
      go_wp2_with fail
      with_reducible refine Calls.mono (V1.out _) ?_
      rintro e w' ⟨rfl, rfl⟩
      go_wp2_with fail
      with_reducible refine Calls.mono (V2.out _) ?_
      rintro e w' ⟨rfl, rfl⟩
      go_wp2_with fail
      with_reducible refine Calls.mono (D1.out _) ?_
      rintro e w1 ⟨u, rfl, hu, hb⟩
      have HU := Lib.hid (And.intro hu hb)
      clear hu hb
      go_wp2_with fail
      with_reducible refine Calls.mono (D2.out _) ?_
      rintro e w2 ⟨v, rfl, hv, hb⟩
      have HV := Lib.hid (And.intro hv (And.intro (HU.out.1.next hb) (Below.andThen HU.out.2 hb)))
      clear hv hb
      go_wp2_with fail
      with_reducible refine Calls.mono (CS.out _ _ _ HV.out.2.1 HV.out.1) ?_
      rintro e w3 ⟨rfl, hb⟩
      have HB := Lib.hid (Below.andThen HV.out.2.2 hb)
      clear hb
      go_wp2_with fail
      go_ret2
      exact ⟨rfl, HB.out⟩
set_option maxRecDepth 100000 in
set_option maxHeartbeats 4000000 in
theorem rMul_any (a b : ByteArray) (w : World) (ha : a.size ≤ maxLen) (hb : b.size ≤ maxLen) :
    Calls Tryz.prog 12 #[.string a, .string b] w fun e w' => e = .returned (.tuple #[.string (In.opS (fun x y => x * y) a b).1, .int .i64 (In.opS (fun x y => x * y) a b).2]) ∧ Below w.heap.size w w' := by
  cases hx : In.num a with
  | none =>
    have V1 := Lib.hid (fun W => valid_none hx W ha)
    rw [In.opS_left hx]
    clear hx ha hb
    go_enter Tryz.func12, Tryz.ntmps12
    go_wp2_with fail
    with_reducible refine Calls.mono (V1.out _) ?_
    rintro e w' ⟨rfl, rfl⟩
    go_wp2_with fail
    go_ret2
    exact ⟨rfl, Below.refl _ _⟩
  | some x =>
    have V1 := Lib.hid (fun W => valid_some hx W ha)
    cases hy : In.num b with
    | none =>
      have V2 := Lib.hid (fun W => valid_none hy W hb)
      rw [In.opS_right hy]
      clear hx hy ha hb
      go_enter Tryz.func12, Tryz.ntmps12
      go_wp2_with fail
      with_reducible refine Calls.mono (V1.out _) ?_
      rintro e w' ⟨rfl, rfl⟩
      go_wp2_with fail
      with_reducible refine Calls.mono (V2.out _) ?_
      rintro e w' ⟨rfl, rfl⟩
      go_wp2_with fail
      go_ret2
      exact ⟨rfl, Below.refl _ _⟩
    | some y =>
      have V2 := Lib.hid (fun W => valid_some hy W hb)
      rw [In.opS_some hx hy]
      have lx := fit_abs hx
      have ly := fit_abs hy
      have D1 := Lib.hid (fun W => rdigits_any a x W hx)
      have D2 := Lib.hid (fun W => rdigits_any b y W hy)
      have e : In.sgn (x.natAbs * y.natAbs) (In.neg x != In.neg y) = x * y := by rw [← In.sgn_times, In.sgn_neg, In.sgn_neg]
      have CT := Lib.hid (fun W u v (hu : DSl W u x.natAbs) (hv : DSl W v y.natAbs) => rtimes_any u v _ _ W hu hv (by omega) (by omega))
      have lxy := In.dg_len_mul x.natAbs y.natAbs
      have CC := Lib.hid (fun W v h => rchecked_any (In.neg x != In.neg y) v (x.natAbs * y.natAbs) W h (by omega))
      rw [e] at CC
      show Calls _ _ _ w fun e w' => e = .returned (.tuple #[.string (In.fit (x * y)).1, .int .i64 (In.fit (x * y)).2]) ∧ Below w.heap.size w w'
      generalize In.fit (x * y) = R at *
      obtain ⟨R1, R2⟩ := R
      clear e lx ly lxy hx hy ha hb
      generalize x.natAbs = X at *
      generalize y.natAbs = Y at *
      generalize In.neg x = nx at *
      generalize In.neg y = ny at *
      cases nx
      all_goals
        cases ny
        all_goals
          go_enter Tryz.func12, Tryz.ntmps12
          go_wp2_with fail
          with_reducible refine Calls.mono (V1.out _) ?_
          rintro e w' ⟨rfl, rfl⟩
          go_wp2_with fail
          with_reducible refine Calls.mono (V2.out _) ?_
          rintro e w' ⟨rfl, rfl⟩
          go_wp2_with fail
          with_reducible refine Calls.mono (D1.out _) ?_
          rintro e w1 ⟨u, rfl, hu, hb⟩
          have HU := Lib.hid (And.intro hu hb)
          clear hu hb
          go_wp2_with fail
          with_reducible refine Calls.mono (D2.out _) ?_
          rintro e w2 ⟨v, rfl, hv, hb⟩
          have HV := Lib.hid (And.intro hv (And.intro (HU.out.1.next hb) (Below.andThen HU.out.2 hb)))
          clear hv hb
          go_wp2_with fail
          with_reducible refine Calls.mono (CT.out _ _ _ HV.out.2.1 HV.out.1) ?_
          rintro e w3 ⟨r, rfl, hr, hb⟩
          have HR := Lib.hid (And.intro hr (Below.andThen HV.out.2.2 hb))
          clear hr hb
          go_wp2_with fail
          refine Calls.mono (CC.out _ _ HR.out.1) ?_
          rintro e w4 ⟨rfl, hb⟩
          have HB := Lib.hid (Below.andThen HR.out.2 hb)
          clear hb
          go_wp2_with fail
          go_ret2
          exact ⟨rfl, HB.out⟩
theorem cmpZ_cases (x y : Int) : (In.neg x = true ∧ In.neg y = false ∧ In.cmpZ x y = -1) ∨ (In.neg x = false ∧ In.neg y = true ∧ In.cmpZ x y = 1) ∨ (In.neg x = true ∧ In.neg y = true ∧ In.cmpZ x y = In.cmpN y.natAbs x.natAbs) ∨ (In.neg x = false ∧ In.neg y = false ∧ In.cmpZ x y = In.cmpN x.natAbs y.natAbs) := by
  unfold In.neg
  by_cases hx : x < 0
  · rw [decide_eq_true hx]
    by_cases hy : y < 0
    · rw [decide_eq_true hy]
      refine .inr (.inr (.inl ⟨rfl, rfl, ?_⟩))
      unfold In.cmpZ In.cmpN
      split <;> split <;> (try split) <;> (try split) <;> omega
    · rw [decide_eq_false hy]
      exact .inl ⟨rfl, rfl, if_pos (by omega)⟩
  · rw [decide_eq_false hx]
    by_cases hy : y < 0
    · rw [decide_eq_true hy]
      refine .inr (.inl ⟨rfl, rfl, ?_⟩)
      unfold In.cmpZ
      rw [if_neg (by omega), if_pos (by omega)]
    · rw [decide_eq_false hy]
      refine .inr (.inr (.inr ⟨rfl, rfl, ?_⟩))
      unfold In.cmpZ In.cmpN
      split <;> split <;> (try split) <;> (try split) <;> omega
set_option maxRecDepth 100000 in
set_option maxHeartbeats 4000000 in
theorem rCompare_any (a b : ByteArray) (w : World) (ha : a.size ≤ maxLen) (hb : b.size ≤ maxLen) :
    Calls Tryz.prog 24 #[.string a, .string b] w fun e w' => e = .returned (.int .i64 (In.cmpS a b)) ∧ Below w.heap.size w w' := by
  cases hx : In.num a with
  | none =>
    have V1 := Lib.hid (fun W => valid_none hx W ha)
    rw [In.cmpS_left hx]
    clear hx ha hb
    go_enter Tryz.func24, Tryz.ntmps24
    go_wp2_with fail
    with_reducible refine Calls.mono (V1.out _) ?_
    rintro e w' ⟨rfl, rfl⟩
    go_wp2_with fail
    go_ret
    exact ⟨rfl, Below.refl _ _⟩
  | some x =>
    have V1 := Lib.hid (fun W => valid_some hx W ha)
    cases hy : In.num b with
    | none =>
      have V2 := Lib.hid (fun W => valid_none hy W hb)
      rw [In.cmpS_right hy]
      clear hx hy ha hb
      go_enter Tryz.func24, Tryz.ntmps24
      go_wp2_with fail
      with_reducible refine Calls.mono (V1.out _) ?_
      rintro e w' ⟨rfl, rfl⟩
      go_wp2_with fail
      with_reducible refine Calls.mono (V2.out _) ?_
      rintro e w' ⟨rfl, rfl⟩
      go_wp2_with fail
      go_ret
      exact ⟨rfl, Below.refl _ _⟩
    | some y =>
      have V2 := Lib.hid (fun W => valid_some hy W hb)
      rw [In.cmpS_some hx hy]
      have lx := fit_abs hx
      have ly := fit_abs hy
      have D1 := Lib.hid (fun W => rdigits_any a x W hx)
      have D2 := Lib.hid (fun W => rdigits_any b y W hy)
      have CO := Lib.hid (fun W u v (hu : DSl W u x.natAbs) (hv : DSl W v y.natAbs) => rorder_any u v _ _ W hu hv (by omega) (by omega))
      have CN := Lib.hid (fun W u v (hu : DSl W u x.natAbs) (hv : DSl W v y.natAbs) => rorder_any v u _ _ W hv hu (by omega) (by omega))
      have key := cmpZ_cases x y
      clear lx ly hx hy ha hb
      generalize x.natAbs = X at *
      generalize y.natAbs = Y at *
      generalize In.cmpZ x y = cz at *
      generalize In.neg x = nx at *
      generalize In.neg y = ny at *
      rcases key with ⟨rfl, rfl, hc⟩ | ⟨rfl, rfl, hc⟩ | ⟨rfl, rfl, hc⟩ | ⟨rfl, rfl, hc⟩
      · go_enter Tryz.func24, Tryz.ntmps24
        have HC := Lib.hid hc
        clear hc
        go_wp2_with fail
        with_reducible refine Calls.mono (V1.out _) ?_
        rintro e w' ⟨rfl, rfl⟩
        go_wp2_with fail
        with_reducible refine Calls.mono (V2.out _) ?_
        rintro e w' ⟨rfl, rfl⟩
        go_wp2_with fail
        with_reducible refine Calls.mono (D1.out _) ?_
        rintro e w1 ⟨u, rfl, hu, hb⟩
        have HU := Lib.hid (And.intro hu hb)
        clear hu hb
        go_wp2_with fail
        with_reducible refine Calls.mono (D2.out _) ?_
        rintro e w2 ⟨v, rfl, hv, hb⟩
        have HV := Lib.hid (Below.andThen HU.out.2 hb)
        clear hv hb
        go_wp2_with fail
        go_ret
        exact ⟨retv (vint HC.out.symm), HV.out⟩
      · go_enter Tryz.func24, Tryz.ntmps24
        have HC := Lib.hid hc
        clear hc
        go_wp2_with fail
        with_reducible refine Calls.mono (V1.out _) ?_
        rintro e w' ⟨rfl, rfl⟩
        go_wp2_with fail
        with_reducible refine Calls.mono (V2.out _) ?_
        rintro e w' ⟨rfl, rfl⟩
        go_wp2_with fail
        with_reducible refine Calls.mono (D1.out _) ?_
        rintro e w1 ⟨u, rfl, hu, hb⟩
        have HU := Lib.hid (And.intro hu hb)
        clear hu hb
        go_wp2_with fail
        with_reducible refine Calls.mono (D2.out _) ?_
        rintro e w2 ⟨v, rfl, hv, hb⟩
        have HV := Lib.hid (Below.andThen HU.out.2 hb)
        clear hv hb
        go_wp2_with fail
        go_ret
        exact ⟨retv (vint HC.out.symm), HV.out⟩
      · go_enter Tryz.func24, Tryz.ntmps24
        have HC := Lib.hid hc
        clear hc
        go_wp2_with fail
        with_reducible refine Calls.mono (V1.out _) ?_
        rintro e w' ⟨rfl, rfl⟩
        go_wp2_with fail
        with_reducible refine Calls.mono (V2.out _) ?_
        rintro e w' ⟨rfl, rfl⟩
        go_wp2_with fail
        with_reducible refine Calls.mono (D1.out _) ?_
        rintro e w1 ⟨u, rfl, hu, hb⟩
        have HU := Lib.hid (And.intro hu hb)
        clear hu hb
        go_wp2_with fail
        with_reducible refine Calls.mono (D2.out _) ?_
        rintro e w2 ⟨v, rfl, hv, hb⟩
        have HV := Lib.hid (And.intro hv (And.intro (HU.out.1.next hb) (Below.andThen HU.out.2 hb)))
        clear hv hb
        go_wp2_with fail
        with_reducible refine Calls.mono (CN.out _ _ _ HV.out.2.1 HV.out.1) ?_
        rintro e w3 ⟨rfl, hb⟩
        have HB := Lib.hid (Below.andThen HV.out.2.2 hb)
        clear hb
        go_wp2_with fail
        go_ret
        exact ⟨retv (vint HC.out.symm), HB.out⟩
      · go_enter Tryz.func24, Tryz.ntmps24
        have HC := Lib.hid hc
        clear hc
        go_wp2_with fail
        with_reducible refine Calls.mono (V1.out _) ?_
        rintro e w' ⟨rfl, rfl⟩
        go_wp2_with fail
        with_reducible refine Calls.mono (V2.out _) ?_
        rintro e w' ⟨rfl, rfl⟩
        go_wp2_with fail
        with_reducible refine Calls.mono (D1.out _) ?_
        rintro e w1 ⟨u, rfl, hu, hb⟩
        have HU := Lib.hid (And.intro hu hb)
        clear hu hb
        go_wp2_with fail
        with_reducible refine Calls.mono (D2.out _) ?_
        rintro e w2 ⟨v, rfl, hv, hb⟩
        have HV := Lib.hid (And.intro hv (And.intro (HU.out.1.next hb) (Below.andThen HU.out.2 hb)))
        clear hv hb
        go_wp2_with fail
        with_reducible refine Calls.mono (CO.out _ _ _ HV.out.2.1 HV.out.1) ?_
        rintro e w3 ⟨rfl, hb⟩
        have HB := Lib.hid (Below.andThen HV.out.2.2 hb)
        clear hb
        go_wp2_with fail
        go_ret
        exact ⟨retv (vint HC.out.symm), HB.out⟩
end Go.Proofs.YtjhnfejlkljkjaaGreatDoor
namespace Go.Proofs.YtjhnfejlkljkjaaGreatDoor
open Go.RowKit

theorem lit_zero {b : ByteArray} {y : Int} (h : In.num b = some y) : (b.toList == ([48] : List UInt8)) = decide (y = 0) := by
  obtain ⟨rfl, _⟩ := In.num_some h
  rw [str_beq, In.txt_list, Bool.eq_iff_iff, decide_eq_true_eq, decide_eq_true_eq]
  rw [show ([48] : List UInt8) = In.txtL 0 by unfold In.txtL Lib.itoa; rw [if_neg (by decide)]; exact In.dec_zero.symm]
  exact ⟨In.txtL_inj, fun h => by rw [h]⟩
theorem dsl_one (w : World) : DSl (w.alloc (.cells #[natV 1] 3)) (.slice (some ⟨w.heap.size, 0, none⟩) 1 1) 1 :=
  ⟨_, 1, rfl, Nat.le_refl _, by decide, (fun h => by cases h), row_sl (Row.new w 3 [natV 1])⟩
theorem dsl_one' (w : World) : DSl (w.alloc (.cells #[.int .i64 1] 3)) (.slice (some ⟨w.heap.size, 0, none⟩) 1 1) 1 := dsl_one w
set_option maxRecDepth 100000 in
set_option maxHeartbeats 4000000 in
theorem rDiv_any (a b : ByteArray) (w : World) (ha : a.size ≤ maxLen) (hb : b.size ≤ maxLen) :
    Calls Tryz.prog 14 #[.string a, .string b] w fun e w' => e = .returned (.tuple #[.string (In.divS a b).1, .string (In.divS a b).2.1, .int .i64 (In.divS a b).2.2]) ∧ Below w.heap.size w w' := by
  cases hx : In.num a with
  | none =>
    have V1 := Lib.hid (fun W => valid_none hx W ha)
    rw [In.divS_left hx]
    clear hx ha hb
    go_enter Tryz.func14, Tryz.ntmps14
    go_wp2_with fail
    with_reducible refine Calls.mono (V1.out _) ?_
    rintro e w' ⟨rfl, rfl⟩
    go_wp2_with fail
    go_ret3
    exact ⟨rfl, Below.refl _ _⟩
  | some x =>
    have V1 := Lib.hid (fun W => valid_some hx W ha)
    cases hy : In.num b with
    | none =>
      have V2 := Lib.hid (fun W => valid_none hy W hb)
      rw [In.divS_right hy]
      clear hx hy ha hb
      go_enter Tryz.func14, Tryz.ntmps14
      go_wp2_with fail
      with_reducible refine Calls.mono (V1.out _) ?_
      rintro e w' ⟨rfl, rfl⟩
      go_wp2_with fail
      with_reducible refine Calls.mono (V2.out _) ?_
      rintro e w' ⟨rfl, rfl⟩
      go_wp2_with fail
      go_ret3
      exact ⟨rfl, Below.refl _ _⟩
    | some y =>
      have V2 := Lib.hid (fun W => valid_some hy W hb)
      have hb0 := lit_zero hy
      by_cases h0 : y = 0
      · subst h0
        rw [In.divS_zero hx hy]
        rw [decide_eq_true rfl] at hb0
        clear hx hy ha hb
        go_enter Tryz.func14, Tryz.ntmps14
        go_wp2_with fail
        with_reducible refine Calls.mono (V1.out _) ?_
        rintro e w' ⟨rfl, rfl⟩
        go_wp2_with fail
        with_reducible refine Calls.mono (V2.out _) ?_
        rintro e w' ⟨rfl, rfl⟩
        go_wp2_with fail
        go_ret3
        exact ⟨rfl, Below.refl _ _⟩
      rw [decide_eq_false h0] at hb0
      rw [In.divS_some hx hy h0]
      have lx := fit_abs hx
      have ly := fit_abs hy
      have D1 := Lib.hid (fun W => rdigits_any a x W hx)
      have D2 := Lib.hid (fun W => rdigits_any b y W hy)
      have hp : 0 < y.natAbs := by omega
      have CD := Lib.hid (fun W u v (hu : DSl W u x.natAbs) (hv : DSl W v y.natAbs) => rdivided_any u v _ _ W hu hv hp (by omega) (by omega))
      obtain ⟨e1, e2⟩ := In.div_sgn (a := x.natAbs) hp (In.neg x) (In.neg y)
      rw [In.sgn_neg, In.sgn_neg] at e1 e2
      rw [e1, e2]
      have hml := Nat.mod_lt x.natAbs hp
      have lq := In.dg_mono (Nat.div_le_self x.natAbs y.natAbs)
      have lr := In.dg_mono (Nat.le_of_lt hml)
      generalize hX : x.natAbs = X at *
      generalize hY : y.natAbs = Y at *
      clear e1 e2 hX hY hx hy ha hb h0
      generalize In.neg x = nx at *
      generalize In.neg y = ny at *
      obtain ⟨Q, hQ⟩ : ∃ Q, X / Y = Q := ⟨_, rfl⟩
      obtain ⟨R, hR⟩ : ∃ R, X % Y = R := ⟨_, rfl⟩
      rw [hQ] at CD lq ⊢
      rw [hR] at CD hml lr ⊢
      clear hQ hR
      have hcase : (nx = true ∧ 0 < R) ∨ ¬ (nx = true ∧ 0 < R) := Classical.em _
      rcases hcase with ⟨rfl, hR0⟩ | hno
      · rw [show (true && decide (0 < R)) = true by rw [decide_eq_true hR0]; rfl]
        simp only [if_true]
        have CP := Lib.hid (fun W q o (hq : DSl W q Q) (ho : DSl W o 1) => rplus_any q o Q 1 W hq ho (by omega) (by decide))
        have CM := Lib.hid (fun W v r (hv : DSl W v Y) (hr : DSl W r R) => rminus_any v r Y R W hv hr (by omega) (by omega))
        have lq1 := In.dg_len_add Q 1
        have l1 : (In.dg 1).length = 1 := by decide
        have lm := In.dg_mono (Nat.sub_le Y R)
        have CC := Lib.hid (fun W v h => rchecked_any (true != ny) v (Q + 1) W h (by omega))
        have CT := Lib.hid (fun W v h => rtext_any v (Y - R) false W h (by omega))
        have key : (In.Fit (In.sgn (Q + 1) (true != ny)) ∧ In.fit (In.sgn (Q + 1) (true != ny)) = (In.txt (In.sgn (Q + 1) (true != ny)), 0)) ∨ (¬ In.Fit (In.sgn (Q + 1) (true != ny)) ∧ In.fit (In.sgn (Q + 1) (true != ny)) = (⟨#[]⟩, 30)) := by
          by_cases h : In.Fit (In.sgn (Q + 1) (true != ny))
          · exact .inl ⟨h, In.fit_pos h⟩
          · exact .inr ⟨h, In.fit_neg h⟩
        have hsg : In.sgn (Y - R) false = ((Y - R : Nat) : Int) := rfl
        rw [hsg] at CT
        have hRL : 0 < (In.dg R).length := by
          rcases Nat.eq_zero_or_pos (In.dg R).length with h | h
          · have := In.dg_nil.1 h; omega
          · exact h
        clear hsg
        rcases key with ⟨k1, k2⟩ | ⟨k1, k2⟩
        · rw [if_pos k1]
          rw [k2] at CC
          generalize In.txt ((Y - R : Nat) : Int) = S2 at *
          generalize decide ((In.dg (Y - R)).length ≤ 200) = B2 at *
          clear k1 k2 lx ly lq lr lq1 l1 lm hml hp
          cases ny
          all_goals
            go_enter Tryz.func14, Tryz.ntmps14
            go_wp2_with fail
            with_reducible refine Calls.mono (V1.out _) ?_
            rintro e w' ⟨rfl, rfl⟩
            go_wp2_with fail
            with_reducible refine Calls.mono (V2.out _) ?_
            rintro e w' ⟨rfl, rfl⟩
            go_wp2_with fail
            with_reducible refine Calls.mono (D1.out _) ?_
            rintro e w1 ⟨u, rfl, hu, hb⟩
            have HU := Lib.hid (And.intro hu hb)
            clear hu hb
            go_wp2_with fail
            with_reducible refine Calls.mono (D2.out _) ?_
            rintro e w2 ⟨v, rfl, hv, hb⟩
            have HV := Lib.hid (And.intro hv (And.intro (HU.out.1.next hb) (Below.andThen HU.out.2 hb)))
            clear hv hb
            go_wp2_with fail
            with_reducible refine Calls.mono (CD.out _ _ _ HV.out.2.1 HV.out.1) ?_
            rintro e w3 ⟨q, r, rfl, hq, hr, hb⟩
            have HQ := Lib.hid (And.intro hq (And.intro hr (And.intro (HV.out.1.next hb) (Below.andThen HV.out.2.2 hb))))
            obtain ⟨ro, rc, rfl, _⟩ := hr.ex
            clear hq hr hb
            generalize (In.dg R).length = RL at *
            have d5 : decide (0 < (RL : Int)) = true := by rw [decide_eq_true_eq]; omega
            go_wp2_with fail
            refine Calls.mono (CP.out _ _ _ (HQ.out.1.next ((Below.refl _ _).alloc (Nat.le_refl _) _)) (dsl_one' _)) ?_
            rintro e w4 ⟨q2, rfl, hq, hb⟩
            have hb4 : Below w3.heap.size w3 w4 := Below.andThen ((Below.refl _ _).alloc (Nat.le_refl _) _) hb
            have HQ4 := Lib.hid (And.intro hq (And.intro (HQ.out.2.1.next hb4) (And.intro (HQ.out.2.2.1.next hb4) (Below.andThen HQ.out.2.2.2 hb4))))
            clear hq hb hb4
            go_wp2_with fail
            with_reducible refine Calls.mono (CM.out _ _ _ HQ4.out.2.2.1 HQ4.out.2.1) ?_
            rintro e w5 ⟨r2, rfl, hr, hb⟩
            have HQ5 := Lib.hid (And.intro (HQ4.out.1.next hb) (And.intro hr (Below.andThen HQ4.out.2.2.2 hb)))
            clear hr hb
            go_wp2_with fail
            refine Calls.mono (CC.out _ _ HQ5.out.1) ?_
            rintro e w6 ⟨rfl, hb⟩
            have HQ6 := Lib.hid (And.intro (HQ5.out.2.1.next hb) (Below.andThen HQ5.out.2.2 hb))
            clear hb
            go_wp2_with fail
            with_reducible refine Calls.mono (CT.out _ _ HQ6.out.1) ?_
            rintro e w7 ⟨rfl, hb⟩
            have HB := Lib.hid (Below.andThen HQ6.out.2 hb)
            clear hb
            go_wp2_with fail
            go_ret3
            exact ⟨rfl, HB.out⟩
        · rw [if_neg k1]
          rw [k2] at CC
          generalize In.txt ((Y - R : Nat) : Int) = S2 at *
          generalize decide ((In.dg (Y - R)).length ≤ 200) = B2 at *
          clear k1 k2 lx ly lq lr lq1 l1 lm hml hp
          cases ny
          all_goals
            go_enter Tryz.func14, Tryz.ntmps14
            go_wp2_with fail
            with_reducible refine Calls.mono (V1.out _) ?_
            rintro e w' ⟨rfl, rfl⟩
            go_wp2_with fail
            with_reducible refine Calls.mono (V2.out _) ?_
            rintro e w' ⟨rfl, rfl⟩
            go_wp2_with fail
            with_reducible refine Calls.mono (D1.out _) ?_
            rintro e w1 ⟨u, rfl, hu, hb⟩
            have HU := Lib.hid (And.intro hu hb)
            clear hu hb
            go_wp2_with fail
            with_reducible refine Calls.mono (D2.out _) ?_
            rintro e w2 ⟨v, rfl, hv, hb⟩
            have HV := Lib.hid (And.intro hv (And.intro (HU.out.1.next hb) (Below.andThen HU.out.2 hb)))
            clear hv hb
            go_wp2_with fail
            with_reducible refine Calls.mono (CD.out _ _ _ HV.out.2.1 HV.out.1) ?_
            rintro e w3 ⟨q, r, rfl, hq, hr, hb⟩
            have HQ := Lib.hid (And.intro hq (And.intro hr (And.intro (HV.out.1.next hb) (Below.andThen HV.out.2.2 hb))))
            obtain ⟨ro, rc, rfl, _⟩ := hr.ex
            clear hq hr hb
            generalize (In.dg R).length = RL at *
            have d5 : decide (0 < (RL : Int)) = true := by rw [decide_eq_true_eq]; omega
            go_wp2_with fail
            refine Calls.mono (CP.out _ _ _ (HQ.out.1.next ((Below.refl _ _).alloc (Nat.le_refl _) _)) (dsl_one' _)) ?_
            rintro e w4 ⟨q2, rfl, hq, hb⟩
            have hb4 : Below w3.heap.size w3 w4 := Below.andThen ((Below.refl _ _).alloc (Nat.le_refl _) _) hb
            have HQ4 := Lib.hid (And.intro hq (And.intro (HQ.out.2.1.next hb4) (And.intro (HQ.out.2.2.1.next hb4) (Below.andThen HQ.out.2.2.2 hb4))))
            clear hq hb hb4
            go_wp2_with fail
            with_reducible refine Calls.mono (CM.out _ _ _ HQ4.out.2.2.1 HQ4.out.2.1) ?_
            rintro e w5 ⟨r2, rfl, hr, hb⟩
            have HQ5 := Lib.hid (And.intro (HQ4.out.1.next hb) (And.intro hr (Below.andThen HQ4.out.2.2.2 hb)))
            clear hr hb
            go_wp2_with fail
            refine Calls.mono (CC.out _ _ HQ5.out.1) ?_
            rintro e w6 ⟨rfl, hb⟩
            have HQ6 := Lib.hid (And.intro (HQ5.out.2.1.next hb) (Below.andThen HQ5.out.2.2 hb))
            clear hb
            go_wp2_with fail
            with_reducible refine Calls.mono (CT.out _ _ HQ6.out.1) ?_
            rintro e w7 ⟨rfl, hb⟩
            have HB := Lib.hid (Below.andThen HQ6.out.2 hb)
            clear hb
            go_wp2_with fail
            go_ret3
            exact ⟨rfl, HB.out⟩
      · rw [show (nx && decide (0 < R)) = false by
          cases nx with
          | false => rfl
          | true => rw [decide_eq_false (fun h => hno ⟨rfl, h⟩)]; rfl]
        simp only [Bool.false_eq_true, if_false]
        have CC := Lib.hid (fun W v h => rchecked_any (nx != ny) v Q W h (by omega))
        have CT := Lib.hid (fun W v h => rtext_any v R false W h (by omega))
        have key : (In.Fit (In.sgn Q (nx != ny)) ∧ In.fit (In.sgn Q (nx != ny)) = (In.txt (In.sgn Q (nx != ny)), 0)) ∨ (¬ In.Fit (In.sgn Q (nx != ny)) ∧ In.fit (In.sgn Q (nx != ny)) = (⟨#[]⟩, 30)) := by
          by_cases h : In.Fit (In.sgn Q (nx != ny))
          · exact .inl ⟨h, In.fit_pos h⟩
          · exact .inr ⟨h, In.fit_neg h⟩
        have hsg : In.sgn R false = ((R : Nat) : Int) := rfl
        rw [hsg] at CT
        have hRL : (In.dg R).length = 0 ∨ nx = false := by
          cases nx with
          | false => exact .inr rfl
          | true =>
            refine .inl (In.dg_nil.2 ?_)
            rcases Nat.eq_zero_or_pos R with h | h
            · exact h
            · exact absurd ⟨rfl, h⟩ hno
        clear hsg hno
        rcases key with ⟨k1, k2⟩ | ⟨k1, k2⟩
        · rw [if_pos k1]
          rw [k2] at CC
          generalize In.txt ((R : Nat) : Int) = S2 at *
          generalize decide ((In.dg R).length ≤ 200) = B2 at *
          clear k1 k2 lx ly lq lr hml hp
          rcases hRL with hRL | rfl
          · cases nx
            all_goals
              cases ny
              all_goals
                go_enter Tryz.func14, Tryz.ntmps14
                go_wp2_with fail
                with_reducible refine Calls.mono (V1.out _) ?_
                rintro e w' ⟨rfl, rfl⟩
                go_wp2_with fail
                with_reducible refine Calls.mono (V2.out _) ?_
                rintro e w' ⟨rfl, rfl⟩
                go_wp2_with fail
                with_reducible refine Calls.mono (D1.out _) ?_
                rintro e w1 ⟨u, rfl, hu, hb⟩
                have HU := Lib.hid (And.intro hu hb)
                clear hu hb
                go_wp2_with fail
                with_reducible refine Calls.mono (D2.out _) ?_
                rintro e w2 ⟨v, rfl, hv, hb⟩
                have HV := Lib.hid (And.intro hv (And.intro (HU.out.1.next hb) (Below.andThen HU.out.2 hb)))
                clear hv hb
                go_wp2_with fail
                with_reducible refine Calls.mono (CD.out _ _ _ HV.out.2.1 HV.out.1) ?_
                rintro e w3 ⟨q, r, rfl, hq, hr, hb⟩
                have HQ := Lib.hid (And.intro hq (And.intro hr (And.intro (HV.out.1.next hb) (Below.andThen HV.out.2.2 hb))))
                obtain ⟨ro, rc, rfl, _⟩ := hr.ex
                clear hq hr hb
                rw [hRL] at HQ ⊢
                have e5 : ((0 : Nat) : Int) = 0 := rfl
                go_wp2_with fail
                have HQ5 := Lib.hid (And.intro HQ.out.1 (And.intro HQ.out.2.1 HQ.out.2.2.2))
                refine Calls.mono (CC.out _ _ HQ5.out.1) ?_
                rintro e w6 ⟨rfl, hb⟩
                have HQ6 := Lib.hid (And.intro (HQ5.out.2.1.next hb) (Below.andThen HQ5.out.2.2 hb))
                clear hb
                go_wp2_with fail
                with_reducible refine Calls.mono (CT.out _ _ HQ6.out.1) ?_
                rintro e w7 ⟨rfl, hb⟩
                have HB := Lib.hid (Below.andThen HQ6.out.2 hb)
                clear hb
                go_wp2_with fail
                go_ret3
                exact ⟨rfl, HB.out⟩
          · cases ny
            all_goals
              go_enter Tryz.func14, Tryz.ntmps14
              go_wp2_with fail
              with_reducible refine Calls.mono (V1.out _) ?_
              rintro e w' ⟨rfl, rfl⟩
              go_wp2_with fail
              with_reducible refine Calls.mono (V2.out _) ?_
              rintro e w' ⟨rfl, rfl⟩
              go_wp2_with fail
              with_reducible refine Calls.mono (D1.out _) ?_
              rintro e w1 ⟨u, rfl, hu, hb⟩
              have HU := Lib.hid (And.intro hu hb)
              clear hu hb
              go_wp2_with fail
              with_reducible refine Calls.mono (D2.out _) ?_
              rintro e w2 ⟨v, rfl, hv, hb⟩
              have HV := Lib.hid (And.intro hv (And.intro (HU.out.1.next hb) (Below.andThen HU.out.2 hb)))
              clear hv hb
              go_wp2_with fail
              with_reducible refine Calls.mono (CD.out _ _ _ HV.out.2.1 HV.out.1) ?_
              rintro e w3 ⟨q, r, rfl, hq, hr, hb⟩
              have HQ := Lib.hid (And.intro hq (And.intro hr (And.intro (HV.out.1.next hb) (Below.andThen HV.out.2.2 hb))))
              obtain ⟨ro, rc, rfl, _⟩ := hr.ex
              clear hq hr hb
              generalize (In.dg R).length = RL at *
              go_wp2_with fail
              have HQ5 := Lib.hid (And.intro HQ.out.1 (And.intro HQ.out.2.1 HQ.out.2.2.2))
              refine Calls.mono (CC.out _ _ HQ5.out.1) ?_
              rintro e w6 ⟨rfl, hb⟩
              have HQ6 := Lib.hid (And.intro (HQ5.out.2.1.next hb) (Below.andThen HQ5.out.2.2 hb))
              clear hb
              go_wp2_with fail
              with_reducible refine Calls.mono (CT.out _ _ HQ6.out.1) ?_
              rintro e w7 ⟨rfl, hb⟩
              have HB := Lib.hid (Below.andThen HQ6.out.2 hb)
              clear hb
              go_wp2_with fail
              go_ret3
              exact ⟨rfl, HB.out⟩
        · rw [if_neg k1]
          rw [k2] at CC
          generalize In.txt ((R : Nat) : Int) = S2 at *
          generalize decide ((In.dg R).length ≤ 200) = B2 at *
          clear k1 k2 lx ly lq lr hml hp
          rcases hRL with hRL | rfl
          · cases nx
            all_goals
              cases ny
              all_goals
                go_enter Tryz.func14, Tryz.ntmps14
                go_wp2_with fail
                with_reducible refine Calls.mono (V1.out _) ?_
                rintro e w' ⟨rfl, rfl⟩
                go_wp2_with fail
                with_reducible refine Calls.mono (V2.out _) ?_
                rintro e w' ⟨rfl, rfl⟩
                go_wp2_with fail
                with_reducible refine Calls.mono (D1.out _) ?_
                rintro e w1 ⟨u, rfl, hu, hb⟩
                have HU := Lib.hid (And.intro hu hb)
                clear hu hb
                go_wp2_with fail
                with_reducible refine Calls.mono (D2.out _) ?_
                rintro e w2 ⟨v, rfl, hv, hb⟩
                have HV := Lib.hid (And.intro hv (And.intro (HU.out.1.next hb) (Below.andThen HU.out.2 hb)))
                clear hv hb
                go_wp2_with fail
                with_reducible refine Calls.mono (CD.out _ _ _ HV.out.2.1 HV.out.1) ?_
                rintro e w3 ⟨q, r, rfl, hq, hr, hb⟩
                have HQ := Lib.hid (And.intro hq (And.intro hr (And.intro (HV.out.1.next hb) (Below.andThen HV.out.2.2 hb))))
                obtain ⟨ro, rc, rfl, _⟩ := hr.ex
                clear hq hr hb
                rw [hRL] at HQ ⊢
                have e5 : ((0 : Nat) : Int) = 0 := rfl
                go_wp2_with fail
                have HQ5 := Lib.hid (And.intro HQ.out.1 (And.intro HQ.out.2.1 HQ.out.2.2.2))
                refine Calls.mono (CC.out _ _ HQ5.out.1) ?_
                rintro e w6 ⟨rfl, hb⟩
                have HQ6 := Lib.hid (And.intro (HQ5.out.2.1.next hb) (Below.andThen HQ5.out.2.2 hb))
                clear hb
                go_wp2_with fail
                with_reducible refine Calls.mono (CT.out _ _ HQ6.out.1) ?_
                rintro e w7 ⟨rfl, hb⟩
                have HB := Lib.hid (Below.andThen HQ6.out.2 hb)
                clear hb
                go_wp2_with fail
                go_ret3
                exact ⟨rfl, HB.out⟩
          · cases ny
            all_goals
              go_enter Tryz.func14, Tryz.ntmps14
              go_wp2_with fail
              with_reducible refine Calls.mono (V1.out _) ?_
              rintro e w' ⟨rfl, rfl⟩
              go_wp2_with fail
              with_reducible refine Calls.mono (V2.out _) ?_
              rintro e w' ⟨rfl, rfl⟩
              go_wp2_with fail
              with_reducible refine Calls.mono (D1.out _) ?_
              rintro e w1 ⟨u, rfl, hu, hb⟩
              have HU := Lib.hid (And.intro hu hb)
              clear hu hb
              go_wp2_with fail
              with_reducible refine Calls.mono (D2.out _) ?_
              rintro e w2 ⟨v, rfl, hv, hb⟩
              have HV := Lib.hid (And.intro hv (And.intro (HU.out.1.next hb) (Below.andThen HU.out.2 hb)))
              clear hv hb
              go_wp2_with fail
              with_reducible refine Calls.mono (CD.out _ _ _ HV.out.2.1 HV.out.1) ?_
              rintro e w3 ⟨q, r, rfl, hq, hr, hb⟩
              have HQ := Lib.hid (And.intro hq (And.intro hr (And.intro (HV.out.1.next hb) (Below.andThen HV.out.2.2 hb))))
              obtain ⟨ro, rc, rfl, _⟩ := hr.ex
              clear hq hr hb
              generalize (In.dg R).length = RL at *
              go_wp2_with fail
              have HQ5 := Lib.hid (And.intro HQ.out.1 (And.intro HQ.out.2.1 HQ.out.2.2.2))
              refine Calls.mono (CC.out _ _ HQ5.out.1) ?_
              rintro e w6 ⟨rfl, hb⟩
              have HQ6 := Lib.hid (And.intro (HQ5.out.2.1.next hb) (Below.andThen HQ5.out.2.2 hb))
              clear hb
              go_wp2_with fail
              with_reducible refine Calls.mono (CT.out _ _ HQ6.out.1) ?_
              rintro e w7 ⟨rfl, hb⟩
              have HB := Lib.hid (Below.andThen HQ6.out.2 hb)
              clear hb
              go_wp2_with fail
              go_ret3
              exact ⟨rfl, HB.out⟩
end Go.Proofs.YtjhnfejlkljkjaaGreatDoor
