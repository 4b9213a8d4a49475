/- The reference implementation: sums, differences and products of texts; order. -/
/- The reference implementation: Add, Sub, Mul, Compare. -/
/- The reference implementation: Div, Gcd. -/
/- The reference implementation: Gcd. -/
/- The reference implementation: Root. -/
/- The reference implementation: FromInt. -/
/- The reference implementation: ToInt. -/
import Derived.Test.YtlehjmanlccncaaGreatDoorIntGF
import Derived.Test.YtlehjmanlccncaaGreatDoorIntGI
set_option linter.unusedVariables false
set_option linter.unusedSimpArgs false
namespace Go.Proofs.YtlehjmanlccncaaGreatDoor
open Go.RowKit

theorem dg_fit {n : Nat} {s : Bool} : In.Fit (In.sgn n s) ↔ (In.dg n).length ≤ 200 := by
  show Int.natAbs (In.sgn n s) < 10 ^ 200 ↔ _
  rw [In.sgn_abs]
  exact (In.gr_len_iff (by decide) n 200).symm
theorem fit_dg {z : Int} (h : In.Fit z) : (In.dg z.natAbs).length ≤ 200 := In.dg_len_le h
set_option maxRecDepth 100000 in
set_option maxHeartbeats 2000000 in
theorem rchecked_any (s : Bool) (v : Value) (n : Nat) (w : World) (hv : DSl w v n) (hl : (In.dg n).length ≤ 1000) :
    Calls Tryz.prog 72 #[.bool s, v] w fun e w' => e = .returned (.tuple #[.string (In.fit (In.sgn n s)).1, .int .i64 (In.fit (In.sgn n s)).2]) ∧ Below w.heap.size w w' := by
  have CT := Lib.hid (rtext_any v n s w hv hl)
  have key : (decide ((In.dg n).length ≤ 200) = true ∧ In.fit (In.sgn n s) = (In.txt (In.sgn n s), 0)) ∨ (decide ((In.dg n).length ≤ 200) = false ∧ In.fit (In.sgn n s) = (⟨#[]⟩, 30)) := by
    by_cases h : (In.dg n).length ≤ 200
    · exact .inl ⟨decide_eq_true h, In.fit_pos (dg_fit.2 h)⟩
    · exact .inr ⟨decide_eq_false h, In.fit_neg (fun h' => h (dg_fit.1 h'))⟩
  obtain ⟨o, c, rfl, _⟩ := hv.ex
  generalize hL : (In.dg n).length = L at *
  clear hL hl hv
  rcases key with ⟨k1, k2⟩ | ⟨k1, k2⟩
  all_goals
    rw [k2]
    rw [k1] at CT
    generalize In.txt (In.sgn n s) = S at *
    clear k1 k2
    go_enter Tryz.func72, Tryz.ntmps72
    go_wp2_with fail
    with_reducible refine Calls.mono CT.out ?_
    rintro e w2 ⟨rfl, hb⟩
    have HB := Lib.hid hb
    clear hb
    go_wp2_with fail
    go_ret2
    exact ⟨rfl, HB.out⟩
theorem cmpN_ge (a b : Nat) : decide (0 ≤ In.cmpN a b) = decide (b ≤ a) := by
  unfold In.cmpN
  split
  · rw [decide_eq_false (by omega), decide_eq_false (by omega)]
  · split
    · rw [decide_eq_true (by omega), decide_eq_true (by omega)]
    · rw [decide_eq_true (by omega), decide_eq_true (by omega)]
set_option maxRecDepth 100000 in
set_option maxHeartbeats 4000000 in
theorem rsum_any (x y : Bool) (u v : Value) (a b : Nat) (w : World) (hu : DSl w u a) (hv : DSl w v b) (ha : (In.dg a).length ≤ 400) (hb : (In.dg b).length ≤ 400) :
    Calls Tryz.prog 74 #[.bool x, u, .bool y, v] w fun e w' => e = .returned (.tuple #[.string (In.fit (In.sgn a x + In.sgn b y)).1, .int .i64 (In.fit (In.sgn a x + In.sgn b y)).2]) ∧ Below w.heap.size w w' := by
  have CP := Lib.hid (rplus_any u v a b w hu hv (by omega) (by omega))
  have CO := Lib.hid (rorder_any u v a b w hu hv (by omega) (by omega))
  have HU := Lib.hid (And.intro hu hv)
  have hab := In.dg_len_add a b
  have hge := cmpN_ge a b
  obtain ⟨o, c, rfl, _⟩ := hu.ex
  obtain ⟨o', c', rfl, _⟩ := hv.ex
  have HL := Lib.hid (And.intro ha hb)
  have CM := Lib.hid (fun W (h : Below w.heap.size w W) (hba : b ≤ a) => rminus_any _ _ a b W (hu.next h) (hv.next h) (by omega) hba)
  have CN := Lib.hid (fun W (h : Below w.heap.size w W) (hab : a ≤ b) => rminus_any _ _ b a W (hv.next h) (hu.next h) (by omega) hab)
  have lm := Lib.hid (fun (h : b ≤ a) => Nat.le_trans (In.dg_mono (Nat.sub_le a b)) (show (In.dg a).length ≤ 1000 by omega))
  have ln := Lib.hid (fun (h : a ≤ b) => Nat.le_trans (In.dg_mono (Nat.sub_le b a)) (show (In.dg b).length ≤ 1000 by omega))
  have lp : (In.dg (a + b)).length ≤ 1000 := by omega
  by_cases hxy : x = y
  · subst hxy
    rw [In.sgn_plus]
    have CC := Lib.hid (fun W v h => rchecked_any x v (a + b) W h lp)
    generalize In.fit (In.sgn (a + b) x) = R at *
    obtain ⟨R1, R2⟩ := R
    generalize (In.dg a).length = LA at *
    generalize (In.dg b).length = LB at *
    clear hu hv ha hb hab lp CM CN CO hge
    cases x
    all_goals
      go_enter Tryz.func74, Tryz.ntmps74
      go_wp2_with fail
      with_reducible refine Calls.mono CP.out ?_
      rintro e w2 ⟨r, rfl, hn, hb⟩
      have HB := Lib.hid hb
      have CC2 := Lib.hid (CC.out w2 r hn)
      obtain ⟨o3, c3, rfl, _⟩ := hn.ex
      generalize (In.dg (a + b)).length = LR at *
      clear hb hn
      go_wp2_with fail
      with_reducible refine Calls.mono CC2.out ?_
      rintro e w3 ⟨rfl, hb⟩
      have HB2 := Lib.hid (Below.andThen HB.out hb)
      clear hb
      go_wp2_with fail
      go_ret2
      exact ⟨rfl, HB2.out⟩
  · rcases Nat.lt_or_ge a b with hlt | hgt
    · rw [In.sgn_less hxy hlt]
      rw [decide_eq_false (p := b ≤ a) (by omega)] at hge
      have CC := Lib.hid (fun W v h => rchecked_any y v (b - a) W h (ln.out (by omega)))
      generalize In.fit (In.sgn (b - a) y) = R at *
      obtain ⟨R1, R2⟩ := R
      have CN2 := Lib.hid (fun W h => CN.out W h (by omega))
      generalize (In.dg a).length = LA at *
      generalize (In.dg b).length = LB at *
      generalize In.cmpN a b = cm at *
      clear hu hv ha hb hab lp CM CN CP hlt lm ln
      cases x
      all_goals
        cases y
        all_goals
          first
          | exact absurd rfl hxy
          | (clear hxy
             go_enter Tryz.func74, Tryz.ntmps74
             go_wp2_with fail
             with_reducible refine Calls.mono CO.out ?_
             rintro e w2 ⟨rfl, hb⟩
             have HB := Lib.hid hb
             clear hb
             go_wp2_with fail
             with_reducible refine Calls.mono (CN2.out _ HB.out) ?_
             rintro e w3 ⟨r, rfl, hn, hb⟩
             have HB2 := Lib.hid (Below.andThen HB.out hb)
             have CC2 := Lib.hid (CC.out w3 r hn)
             obtain ⟨o3, c3, rfl, _⟩ := hn.ex
             generalize (In.dg (b - a)).length = LR at *
             clear hb hn
             go_wp2_with fail
             with_reducible refine Calls.mono CC2.out ?_
             rintro e w4 ⟨rfl, hb⟩
             have HB3 := Lib.hid (Below.andThen HB2.out hb)
             clear hb
             go_wp2_with fail
             go_ret2
             exact ⟨rfl, HB3.out⟩)
    · rw [In.sgn_more hxy hgt]
      rw [decide_eq_true (p := b ≤ a) hgt] at hge
      have CC := Lib.hid (fun W v h => rchecked_any x v (a - b) W h (lm.out hgt))
      generalize In.fit (In.sgn (a - b) x) = R at *
      obtain ⟨R1, R2⟩ := R
      have CN2 := Lib.hid (fun W h => CM.out W h hgt)
      generalize (In.dg a).length = LA at *
      generalize (In.dg b).length = LB at *
      generalize In.cmpN a b = cm at *
      clear hu hv ha hb hab lp CM CN CP hgt lm ln
      cases x
      all_goals
        cases y
        all_goals
          first
          | exact absurd rfl hxy
          | (clear hxy
             go_enter Tryz.func74, Tryz.ntmps74
             go_wp2_with fail
             with_reducible refine Calls.mono CO.out ?_
             rintro e w2 ⟨rfl, hb⟩
             have HB := Lib.hid hb
             clear hb
             go_wp2_with fail
             with_reducible refine Calls.mono (CN2.out _ HB.out) ?_
             rintro e w3 ⟨r, rfl, hn, hb⟩
             have HB2 := Lib.hid (Below.andThen HB.out hb)
             have CC2 := Lib.hid (CC.out w3 r hn)
             obtain ⟨o3, c3, rfl, _⟩ := hn.ex
             generalize (In.dg (a - b)).length = LR at *
             clear hb hn
             go_wp2_with fail
             with_reducible refine Calls.mono CC2.out ?_
             rintro e w4 ⟨rfl, hb⟩
             have HB3 := Lib.hid (Below.andThen HB2.out hb)
             clear hb
             go_wp2_with fail
             go_ret2
             exact ⟨rfl, HB3.out⟩)
end Go.Proofs.YtlehjmanlccncaaGreatDoor
set_option linter.unusedVariables false
set_option linter.unusedSimpArgs false
namespace Go.Proofs.YtlehjmanlccncaaGreatDoor
open Go.RowKit

theorem valid_none {s : ByteArray} (h : In.num s = none) (w : World) (hs : s.size ≤ maxLen) : Calls Tryz.prog 59 #[.string s] w fun e w' => e = .returned (.bool false) ∧ w = w' := by
  have := rvalid_any s w hs
  rwa [In.num_none.1 h] at this
theorem valid_some {s : ByteArray} {x : Int} (h : In.num s = some x) (w : World) (hs : s.size ≤ maxLen) : Calls Tryz.prog 59 #[.string s] w fun e w' => e = .returned (.bool true) ∧ w = w' := by
  have := rvalid_any s w hs
  rwa [← In.num_isSome, h] at this
theorem fit_abs {s : ByteArray} {x : Int} (h : In.num s = some x) : (In.dg x.natAbs).length ≤ 200 := fit_dg (In.num_some h).2
set_option maxRecDepth 100000 in
set_option maxHeartbeats 4000000 in
theorem rAdd_any (a b : ByteArray) (w : World) (ha : a.size ≤ maxLen) (hb : b.size ≤ maxLen) :
    Calls Tryz.prog 48 #[.string a, .string b] w fun e w' => e = .returned (.tuple #[.string (In.opS (fun x y => x + y) a b).1, .int .i64 (In.opS (fun x y => x + y) a b).2]) ∧ Below w.heap.size w w' := by
  cases hx : In.num a with
  | none =>
    have V1 := Lib.hid (fun W => valid_none hx W ha)
    rw [In.opS_left hx]
    clear hx ha hb
    go_enter Tryz.func48, Tryz.ntmps48
    go_wp2_with fail
    with_reducible refine Calls.mono (V1.out _) ?_
    rintro e w' ⟨rfl, rfl⟩
    go_wp2_with fail
    go_ret2
    exact ⟨rfl, Below.refl _ _⟩
  | some x =>
    have V1 := Lib.hid (fun W => valid_some hx W ha)
    cases hy : In.num b with
    | none =>
      have V2 := Lib.hid (fun W => valid_none hy W hb)
      rw [In.opS_right hy]
      clear hx hy ha hb
      go_enter Tryz.func48, Tryz.ntmps48
      go_wp2_with fail
      with_reducible refine Calls.mono (V1.out _) ?_
      rintro e w' ⟨rfl, rfl⟩
      go_wp2_with fail
      with_reducible refine Calls.mono (V2.out _) ?_
      rintro e w' ⟨rfl, rfl⟩
      go_wp2_with fail
      go_ret2
      exact ⟨rfl, Below.refl _ _⟩
    | some y =>
      have V2 := Lib.hid (fun W => valid_some hy W hb)
      rw [In.opS_some hx hy]
      have lx := fit_abs hx
      have ly := fit_abs hy
      have D1 := Lib.hid (fun W => rdigits_any a x W hx)
      have D2 := Lib.hid (fun W => rdigits_any b y W hy)
      have e : In.sgn x.natAbs (In.neg x) + In.sgn y.natAbs (In.neg y) = x + y := by
        have h1 := In.sgn_neg x
        have h2 := In.sgn_neg y
        have h3 := In.sgn_minus y.natAbs (In.neg y)
        rw [h2] at h3
        first | (rw [h1, h2]; done) | (rw [h1, ← h3]; rfl)
      have CS := Lib.hid (fun W u v (hu : DSl W u x.natAbs) (hv : DSl W v y.natAbs) => rsum_any (In.neg x) (In.neg y) u v _ _ W hu hv (by omega) (by omega))
      rw [e] at CS
      show Calls _ _ _ w fun e w' => e = .returned (.tuple #[.string (In.fit (x + y)).1, .int .i64 (In.fit (x + y)).2]) ∧ Below w.heap.size w w'
      generalize In.fit (x + y) = R at *
      obtain ⟨R1, R2⟩ := R
      clear e lx ly hx hy ha hb
      generalize x.natAbs = X at *
      generalize y.natAbs = Y at *
      generalize In.neg x = nx at *
      generalize In.neg y = ny at *
      go_enter Tryz.func48, Tryz.ntmps48
      go_wp2_with fail
      with_reducible refine Calls.mono (V1.out _) ?_
      rintro e w' ⟨rfl, rfl⟩
      go_wp2_with fail
      with_reducible refine Calls.mono (V2.out _) ?_
      rintro e w' ⟨rfl, rfl⟩
      go_wp2_with fail
      with_reducible refine Calls.mono (D1.out _) ?_
      rintro e w1 ⟨u, rfl, hu, hb⟩
      have HU := Lib.hid (And.intro hu hb)
      clear hu hb
      go_wp2_with fail
      with_reducible refine Calls.mono (D2.out _) ?_
      rintro e w2 ⟨v, rfl, hv, hb⟩
      have HV := Lib.hid (And.intro hv (And.intro (HU.out.1.next hb) (Below.andThen HU.out.2 hb)))
      clear hv hb
      go_wp2_with fail
      with_reducible refine Calls.mono (CS.out _ _ _ HV.out.2.1 HV.out.1) ?_
      rintro e w3 ⟨rfl, hb⟩
      have HB := Lib.hid (Below.andThen HV.out.2.2 hb)
      clear hb
      go_wp2_with fail
      go_ret2
      exact ⟨rfl, HB.out⟩
set_option maxRecDepth 100000 in
set_option maxHeartbeats 4000000 in
theorem rSub_any (a b : ByteArray) (w : World) (ha : a.size ≤ maxLen) (hb : b.size ≤ maxLen) :
    Calls Tryz.prog 49 #[.string a, .string b] w fun e w' => e = .returned (.tuple #[.string (In.opS (fun x y => x - y) a b).1, .int .i64 (In.opS (fun x y => x - y) a b).2]) ∧ Below w.heap.size w w' := by
  cases hx : In.num a with
  | none =>
    have V1 := Lib.hid (fun W => valid_none hx W ha)
    rw [In.opS_left hx]
    clear hx ha hb
    go_enter Tryz.func49, Tryz.ntmps49
    go_wp2_with fail
    with_reducible refine Calls.mono (V1.out _) ?_
    rintro e w' ⟨rfl, rfl⟩
    go_wp2_with fail
    go_ret2
    exact ⟨rfl, Below.refl _ _⟩
  | some x =>
    have V1 := Lib.hid (fun W => valid_some hx W ha)
    cases hy : In.num b with
    | none =>
      have V2 := Lib.hid (fun W => valid_none hy W hb)
      rw [In.opS_right hy]
      clear hx hy ha hb
      go_enter Tryz.func49, Tryz.ntmps49
      go_wp2_with fail
      with_reducible refine Calls.mono (V1.out _) ?_
      rintro e w' ⟨rfl, rfl⟩
      go_wp2_with fail
      with_reducible refine Calls.mono (V2.out _) ?_
      rintro e w' ⟨rfl, rfl⟩
      go_wp2_with fail
      go_ret2
      exact ⟨rfl, Below.refl _ _⟩
    | some y =>
      have V2 := Lib.hid (fun W => valid_some hy W hb)
      rw [In.opS_some hx hy]
      have lx := fit_abs hx
      have ly := fit_abs hy
      have D1 := Lib.hid (fun W => rdigits_any a x W hx)
      have D2 := Lib.hid (fun W => rdigits_any b y W hy)
      have e : In.sgn x.natAbs (In.neg x) + In.sgn y.natAbs (!In.neg y) = x - y := by
        have h1 := In.sgn_neg x
        have h2 := In.sgn_neg y
        have h3 := In.sgn_minus y.natAbs (In.neg y)
        rw [h2] at h3
        first | (rw [h1, h2]; done) | (rw [h1, ← h3]; rfl)
      have CS := Lib.hid (fun W u v (hu : DSl W u x.natAbs) (hv : DSl W v y.natAbs) => rsum_any (In.neg x) (!In.neg y) u v _ _ W hu hv (by omega) (by omega))
      rw [e] at CS
      show Calls _ _ _ w fun e w' => e = .returned (.tuple #[.string (In.fit (x - y)).1, .int .i64 (In.fit (x - y)).2]) ∧ Below w.heap.size w w'
      generalize In.fit (x - y) = R at *
      obtain ⟨R1, R2⟩ := R
      clear e lx ly hx hy ha hb
      generalize x.natAbs = X at *
      generalize y.natAbs = Y at *
      generalize In.neg x = nx at *
      generalize In.neg y = ny at *
      go_enter Tryz.func49, Tryz.ntmps49
      go_wp2_with fail
      with_reducible refine Calls.mono (V1.out _) ?_
      rintro e w' ⟨rfl, rfl⟩
      go_wp2_with fail
      with_reducible refine Calls.mono (V2.out _) ?_
      rintro e w' ⟨rfl, rfl⟩
      go_wp2_with fail
      with_reducible refine Calls.mono (D1.out _) ?_
      rintro e w1 ⟨u, rfl, hu, hb⟩
      have HU := Lib.hid (And.intro hu hb)
      clear hu hb
      go_wp2_with fail
      with_reducible refine Calls.mono (D2.out _) ?_
      rintro e w2 ⟨v, rfl, hv, hb⟩
      have HV := Lib.hid (And.intro hv (And.intro (HU.out.1.next hb) (Below.andThen HU.out.2 hb)))
      clear hv hb
      go_wp2_with fail
      with_reducible refine Calls.mono (CS.out _ _ _ HV.out.2.1 HV.out.1) ?_
      rintro e w3 ⟨rfl, hb⟩
      have HB := Lib.hid (Below.andThen HV.out.2.2 hb)
      clear hb
      go_wp2_with fail
      go_ret2
      exact ⟨rfl, HB.out⟩
set_option maxRecDepth 100000 in
set_option maxHeartbeats 4000000 in
theorem rMul_any (a b : ByteArray) (w : World) (ha : a.size ≤ maxLen) (hb : b.size ≤ maxLen) :
    Calls Tryz.prog 44 #[.string a, .string b] w fun e w' => e = .returned (.tuple #[.string (In.opS (fun x y => x * y) a b).1, .int .i64 (In.opS (fun x y => x * y) a b).2]) ∧ Below w.heap.size w w' := by
  cases hx : In.num a with
  | none =>
    have V1 := Lib.hid (fun W => valid_none hx W ha)
    rw [In.opS_left hx]
    clear hx ha hb
    go_enter Tryz.func44, Tryz.ntmps44
    go_wp2_with fail
    with_reducible refine Calls.mono (V1.out _) ?_
    rintro e w' ⟨rfl, rfl⟩
    go_wp2_with fail
    go_ret2
    exact ⟨rfl, Below.refl _ _⟩
  | some x =>
    have V1 := Lib.hid (fun W => valid_some hx W ha)
    cases hy : In.num b with
    | none =>
      have V2 := Lib.hid (fun W => valid_none hy W hb)
      rw [In.opS_right hy]
      clear hx hy ha hb
      go_enter Tryz.func44, Tryz.ntmps44
      go_wp2_with fail
      with_reducible refine Calls.mono (V1.out _) ?_
      rintro e w' ⟨rfl, rfl⟩
      go_wp2_with fail
      with_reducible refine Calls.mono (V2.out _) ?_
      rintro e w' ⟨rfl, rfl⟩
      go_wp2_with fail
      go_ret2
      exact ⟨rfl, Below.refl _ _⟩
    | some y =>
      have V2 := Lib.hid (fun W => valid_some hy W hb)
      rw [In.opS_some hx hy]
      have lx := fit_abs hx
      have ly := fit_abs hy
      have D1 := Lib.hid (fun W => rdigits_any a x W hx)
      have D2 := Lib.hid (fun W => rdigits_any b y W hy)
      have e : In.sgn (x.natAbs * y.natAbs) (In.neg x != In.neg y) = x * y := by rw [← In.sgn_times, In.sgn_neg, In.sgn_neg]
      have CT := Lib.hid (fun W u v (hu : DSl W u x.natAbs) (hv : DSl W v y.natAbs) => rtimes_any u v _ _ W hu hv (by omega) (by omega))
      have lxy := In.dg_len_mul x.natAbs y.natAbs
      have CC := Lib.hid (fun W v h => rchecked_any (In.neg x != In.neg y) v (x.natAbs * y.natAbs) W h (by omega))
      rw [e] at CC
      show Calls _ _ _ w fun e w' => e = .returned (.tuple #[.string (In.fit (x * y)).1, .int .i64 (In.fit (x * y)).2]) ∧ Below w.heap.size w w'
      generalize In.fit (x * y) = R at *
      obtain ⟨R1, R2⟩ := R
      clear e lx ly lxy hx hy ha hb
      generalize x.natAbs = X at *
      generalize y.natAbs = Y at *
      generalize In.neg x = nx at *
      generalize In.neg y = ny at *
      cases nx
      all_goals
        cases ny
        all_goals
          go_enter Tryz.func44, Tryz.ntmps44
          go_wp2_with fail
          with_reducible refine Calls.mono (V1.out _) ?_
          rintro e w' ⟨rfl, rfl⟩
          go_wp2_with fail
          with_reducible refine Calls.mono (V2.out _) ?_
          rintro e w' ⟨rfl, rfl⟩
          go_wp2_with fail
          with_reducible refine Calls.mono (D1.out _) ?_
          rintro e w1 ⟨u, rfl, hu, hb⟩
          have HU := Lib.hid (And.intro hu hb)
          clear hu hb
          go_wp2_with fail
          with_reducible refine Calls.mono (D2.out _) ?_
          rintro e w2 ⟨v, rfl, hv, hb⟩
          have HV := Lib.hid (And.intro hv (And.intro (HU.out.1.next hb) (Below.andThen HU.out.2 hb)))
          clear hv hb
          go_wp2_with fail
          with_reducible refine Calls.mono (CT.out _ _ _ HV.out.2.1 HV.out.1) ?_
          rintro e w3 ⟨r, rfl, hr, hb⟩
          have HR := Lib.hid (And.intro hr (Below.andThen HV.out.2.2 hb))
          clear hr hb
          go_wp2_with fail
          refine Calls.mono (CC.out _ _ HR.out.1) ?_
          rintro e w4 ⟨rfl, hb⟩
          have HB := Lib.hid (Below.andThen HR.out.2 hb)
          clear hb
          go_wp2_with fail
          go_ret2
          exact ⟨rfl, HB.out⟩
theorem cmpZ_cases (x y : Int) : (In.neg x = true ∧ In.neg y = false ∧ In.cmpZ x y = -1) ∨ (In.neg x = false ∧ In.neg y = true ∧ In.cmpZ x y = 1) ∨ (In.neg x = true ∧ In.neg y = true ∧ In.cmpZ x y = In.cmpN y.natAbs x.natAbs) ∨ (In.neg x = false ∧ In.neg y = false ∧ In.cmpZ x y = In.cmpN x.natAbs y.natAbs) := by
  unfold In.neg
  by_cases hx : x < 0
  · rw [decide_eq_true hx]
    by_cases hy : y < 0
    · rw [decide_eq_true hy]
      refine .inr (.inr (.inl ⟨rfl, rfl, ?_⟩))
      unfold In.cmpZ In.cmpN
      split <;> split <;> (try split) <;> (try split) <;> omega
    · rw [decide_eq_false hy]
      exact .inl ⟨rfl, rfl, if_pos (by omega)⟩
  · rw [decide_eq_false hx]
    by_cases hy : y < 0
    · rw [decide_eq_true hy]
      refine .inr (.inl ⟨rfl, rfl, ?_⟩)
      unfold In.cmpZ
      rw [if_neg (by omega), if_pos (by omega)]
    · rw [decide_eq_false hy]
      refine .inr (.inr (.inr ⟨rfl, rfl, ?_⟩))
      unfold In.cmpZ In.cmpN
      split <;> split <;> (try split) <;> (try split) <;> omega
set_option maxRecDepth 100000 in
set_option maxHeartbeats 4000000 in
theorem rCompare_any (a b : ByteArray) (w : World) (ha : a.size ≤ maxLen) (hb : b.size ≤ maxLen) :
    Calls Tryz.prog 53 #[.string a, .string b] w fun e w' => e = .returned (.int .i64 (In.cmpS a b)) ∧ Below w.heap.size w w' := by
  cases hx : In.num a with
  | none =>
    have V1 := Lib.hid (fun W => valid_none hx W ha)
    rw [In.cmpS_left hx]
    clear hx ha hb
    go_enter Tryz.func53, Tryz.ntmps53
    go_wp2_with fail
    with_reducible refine Calls.mono (V1.out _) ?_
    rintro e w' ⟨rfl, rfl⟩
    go_wp2_with fail
    go_ret
    exact ⟨rfl, Below.refl _ _⟩
  | some x =>
    have V1 := Lib.hid (fun W => valid_some hx W ha)
    cases hy : In.num b with
    | none =>
      have V2 := Lib.hid (fun W => valid_none hy W hb)
      rw [In.cmpS_right hy]
      clear hx hy ha hb
      go_enter Tryz.func53, Tryz.ntmps53
      go_wp2_with fail
      with_reducible refine Calls.mono (V1.out _) ?_
      rintro e w' ⟨rfl, rfl⟩
      go_wp2_with fail
      with_reducible refine Calls.mono (V2.out _) ?_
      rintro e w' ⟨rfl, rfl⟩
      go_wp2_with fail
      go_ret
      exact ⟨rfl, Below.refl _ _⟩
    | some y =>
      have V2 := Lib.hid (fun W => valid_some hy W hb)
      rw [In.cmpS_some hx hy]
      have lx := fit_abs hx
      have ly := fit_abs hy
      have D1 := Lib.hid (fun W => rdigits_any a x W hx)
      have D2 := Lib.hid (fun W => rdigits_any b y W hy)
      have CO := Lib.hid (fun W u v (hu : DSl W u x.natAbs) (hv : DSl W v y.natAbs) => rorder_any u v _ _ W hu hv (by omega) (by omega))
      have CN := Lib.hid (fun W u v (hu : DSl W u x.natAbs) (hv : DSl W v y.natAbs) => rorder_any v u _ _ W hv hu (by omega) (by omega))
      have key := cmpZ_cases x y
      clear lx ly hx hy ha hb
      generalize x.natAbs = X at *
      generalize y.natAbs = Y at *
      generalize In.cmpZ x y = cz at *
      generalize In.neg x = nx at *
      generalize In.neg y = ny at *
      rcases key with ⟨rfl, rfl, hc⟩ | ⟨rfl, rfl, hc⟩ | ⟨rfl, rfl, hc⟩ | ⟨rfl, rfl, hc⟩
      · go_enter Tryz.func53, Tryz.ntmps53
        have HC := Lib.hid hc
        clear hc
        go_wp2_with fail
        with_reducible refine Calls.mono (V1.out _) ?_
        rintro e w' ⟨rfl, rfl⟩
        go_wp2_with fail
        with_reducible refine Calls.mono (V2.out _) ?_
        rintro e w' ⟨rfl, rfl⟩
        go_wp2_with fail
        with_reducible refine Calls.mono (D1.out _) ?_
        rintro e w1 ⟨u, rfl, hu, hb⟩
        have HU := Lib.hid (And.intro hu hb)
        clear hu hb
        go_wp2_with fail
        with_reducible refine Calls.mono (D2.out _) ?_
        rintro e w2 ⟨v, rfl, hv, hb⟩
        have HV := Lib.hid (Below.andThen HU.out.2 hb)
        clear hv hb
        go_wp2_with fail
        go_ret
        exact ⟨retv (vint HC.out.symm), HV.out⟩
      · go_enter Tryz.func53, Tryz.ntmps53
        have HC := Lib.hid hc
        clear hc
        go_wp2_with fail
        with_reducible refine Calls.mono (V1.out _) ?_
        rintro e w' ⟨rfl, rfl⟩
        go_wp2_with fail
        with_reducible refine Calls.mono (V2.out _) ?_
        rintro e w' ⟨rfl, rfl⟩
        go_wp2_with fail
        with_reducible refine Calls.mono (D1.out _) ?_
        rintro e w1 ⟨u, rfl, hu, hb⟩
        have HU := Lib.hid (And.intro hu hb)
        clear hu hb
        go_wp2_with fail
        with_reducible refine Calls.mono (D2.out _) ?_
        rintro e w2 ⟨v, rfl, hv, hb⟩
        have HV := Lib.hid (Below.andThen HU.out.2 hb)
        clear hv hb
        go_wp2_with fail
        go_ret
        exact ⟨retv (vint HC.out.symm), HV.out⟩
      · go_enter Tryz.func53, Tryz.ntmps53
        have HC := Lib.hid hc
        clear hc
        go_wp2_with fail
        with_reducible refine Calls.mono (V1.out _) ?_
        rintro e w' ⟨rfl, rfl⟩
        go_wp2_with fail
        with_reducible refine Calls.mono (V2.out _) ?_
        rintro e w' ⟨rfl, rfl⟩
        go_wp2_with fail
        with_reducible refine Calls.mono (D1.out _) ?_
        rintro e w1 ⟨u, rfl, hu, hb⟩
        have HU := Lib.hid (And.intro hu hb)
        clear hu hb
        go_wp2_with fail
        with_reducible refine Calls.mono (D2.out _) ?_
        rintro e w2 ⟨v, rfl, hv, hb⟩
        have HV := Lib.hid (And.intro hv (And.intro (HU.out.1.next hb) (Below.andThen HU.out.2 hb)))
        clear hv hb
        go_wp2_with fail
        with_reducible refine Calls.mono (CN.out _ _ _ HV.out.2.1 HV.out.1) ?_
        rintro e w3 ⟨rfl, hb⟩
        have HB := Lib.hid (Below.andThen HV.out.2.2 hb)
        clear hb
        go_wp2_with fail
        go_ret
        exact ⟨retv (vint HC.out.symm), HB.out⟩
      · go_enter Tryz.func53, Tryz.ntmps53
        have HC := Lib.hid hc
        clear hc
        go_wp2_with fail
        with_reducible refine Calls.mono (V1.out _) ?_
        rintro e w' ⟨rfl, rfl⟩
        go_wp2_with fail
        with_reducible refine Calls.mono (V2.out _) ?_
        rintro e w' ⟨rfl, rfl⟩
        go_wp2_with fail
        with_reducible refine Calls.mono (D1.out _) ?_
        rintro e w1 ⟨u, rfl, hu, hb⟩
        have HU := Lib.hid (And.intro hu hb)
        clear hu hb
        go_wp2_with fail
        with_reducible refine Calls.mono (D2.out _) ?_
        rintro e w2 ⟨v, rfl, hv, hb⟩
        have HV := Lib.hid (And.intro hv (And.intro (HU.out.1.next hb) (Below.andThen HU.out.2 hb)))
        clear hv hb
        go_wp2_with fail
        with_reducible refine Calls.mono (CO.out _ _ _ HV.out.2.1 HV.out.1) ?_
        rintro e w3 ⟨rfl, hb⟩
        have HB := Lib.hid (Below.andThen HV.out.2.2 hb)
        clear hb
        go_wp2_with fail
        go_ret
        exact ⟨retv (vint HC.out.symm), HB.out⟩
end Go.Proofs.YtlehjmanlccncaaGreatDoor
set_option linter.unusedVariables false
set_option linter.unusedSimpArgs false
namespace Go.Proofs.YtlehjmanlccncaaGreatDoor
open Go.RowKit

theorem lit_zero {b : ByteArray} {y : Int} (h : In.num b = some y) : (b.toList == ([48] : List UInt8)) = decide (y = 0) := by
  obtain ⟨rfl, _⟩ := In.num_some h
  rw [str_beq, In.txt_list, Bool.eq_iff_iff, decide_eq_true_eq, decide_eq_true_eq]
  rw [show ([48] : List UInt8) = In.txtL 0 by unfold In.txtL Lib.itoa; rw [if_neg (by decide)]; exact In.dec_zero.symm]
  exact ⟨In.txtL_inj, fun h => by rw [h]⟩
theorem dsl_one (w : World) : DSl (w.alloc (.cells #[natV 1] 3)) (.slice (some ⟨w.heap.size, 0, none⟩) 1 1) 1 :=
  ⟨_, 1, rfl, Nat.le_refl _, by decide, (fun h => by cases h), row_sl (Row.new w 3 [natV 1])⟩
theorem dsl_one' (w : World) : DSl (w.alloc (.cells #[.int .i64 1] 3)) (.slice (some ⟨w.heap.size, 0, none⟩) 1 1) 1 := dsl_one w
set_option maxRecDepth 100000 in
set_option maxHeartbeats 4000000 in
theorem rDiv_any (a b : ByteArray) (w : World) (ha : a.size ≤ maxLen) (hb : b.size ≤ maxLen) :
    Calls Tryz.prog 52 #[.string a, .string b] w fun e w' => e = .returned (.tuple #[.string (In.divS a b).1, .string (In.divS a b).2.1, .int .i64 (In.divS a b).2.2]) ∧ Below w.heap.size w w' := by
  cases hx : In.num a with
  | none =>
    have V1 := Lib.hid (fun W => valid_none hx W ha)
    rw [In.divS_left hx]
    clear hx ha hb
    go_enter Tryz.func52, Tryz.ntmps52
    go_wp2_with fail
    with_reducible refine Calls.mono (V1.out _) ?_
    rintro e w' ⟨rfl, rfl⟩
    go_wp2_with fail
    go_ret3
    exact ⟨rfl, Below.refl _ _⟩
  | some x =>
    have V1 := Lib.hid (fun W => valid_some hx W ha)
    cases hy : In.num b with
    | none =>
      have V2 := Lib.hid (fun W => valid_none hy W hb)
      rw [In.divS_right hy]
      clear hx hy ha hb
      go_enter Tryz.func52, Tryz.ntmps52
      go_wp2_with fail
      with_reducible refine Calls.mono (V1.out _) ?_
      rintro e w' ⟨rfl, rfl⟩
      go_wp2_with fail
      with_reducible refine Calls.mono (V2.out _) ?_
      rintro e w' ⟨rfl, rfl⟩
      go_wp2_with fail
      go_ret3
      exact ⟨rfl, Below.refl _ _⟩
    | some y =>
      have V2 := Lib.hid (fun W => valid_some hy W hb)
      have hb0 := lit_zero hy
      by_cases h0 : y = 0
      · subst h0
        rw [In.divS_zero hx hy]
        rw [decide_eq_true rfl] at hb0
        clear hx hy ha hb
        go_enter Tryz.func52, Tryz.ntmps52
        go_wp2_with fail
        with_reducible refine Calls.mono (V1.out _) ?_
        rintro e w' ⟨rfl, rfl⟩
        go_wp2_with fail
        with_reducible refine Calls.mono (V2.out _) ?_
        rintro e w' ⟨rfl, rfl⟩
        go_wp2_with fail
        go_ret3
        exact ⟨rfl, Below.refl _ _⟩
      rw [decide_eq_false h0] at hb0
      rw [In.divS_some hx hy h0]
      have lx := fit_abs hx
      have ly := fit_abs hy
      have D1 := Lib.hid (fun W => rdigits_any a x W hx)
      have D2 := Lib.hid (fun W => rdigits_any b y W hy)
      have hp : 0 < y.natAbs := by omega
      have CD := Lib.hid (fun W u v (hu : DSl W u x.natAbs) (hv : DSl W v y.natAbs) => rdivided_any u v _ _ W hu hv hp (by omega) (by omega))
      obtain ⟨e1, e2⟩ := In.div_sgn (a := x.natAbs) hp (In.neg x) (In.neg y)
      rw [In.sgn_neg, In.sgn_neg] at e1 e2
      rw [e1, e2]
      have hml := Nat.mod_lt x.natAbs hp
      have lq := In.dg_mono (Nat.div_le_self x.natAbs y.natAbs)
      have lr := In.dg_mono (Nat.le_of_lt hml)
      generalize hX : x.natAbs = X at *
      generalize hY : y.natAbs = Y at *
      clear e1 e2 hX hY hx hy ha hb h0
      generalize In.neg x = nx at *
      generalize In.neg y = ny at *
      obtain ⟨Q, hQ⟩ : ∃ Q, X / Y = Q := ⟨_, rfl⟩
      obtain ⟨R, hR⟩ : ∃ R, X % Y = R := ⟨_, rfl⟩
      rw [hQ] at CD lq ⊢
      rw [hR] at CD hml lr ⊢
      clear hQ hR
      have hcase : (nx = true ∧ 0 < R) ∨ ¬ (nx = true ∧ 0 < R) := Classical.em _
      rcases hcase with ⟨rfl, hR0⟩ | hno
      · rw [show (true && decide (0 < R)) = true by rw [decide_eq_true hR0]; rfl]
        simp only [if_true]
        have CP := Lib.hid (fun W q o (hq : DSl W q Q) (ho : DSl W o 1) => rplus_any q o Q 1 W hq ho (by omega) (by decide))
        have CM := Lib.hid (fun W v r (hv : DSl W v Y) (hr : DSl W r R) => rminus_any v r Y R W hv hr (by omega) (by omega))
        have lq1 := In.dg_len_add Q 1
        have l1 : (In.dg 1).length = 1 := by decide
        have lm := In.dg_mono (Nat.sub_le Y R)
        have CC := Lib.hid (fun W v h => rchecked_any (true != ny) v (Q + 1) W h (by omega))
        have CT := Lib.hid (fun W v h => rtext_any v (Y - R) false W h (by omega))
        have key : (In.Fit (In.sgn (Q + 1) (true != ny)) ∧ In.fit (In.sgn (Q + 1) (true != ny)) = (In.txt (In.sgn (Q + 1) (true != ny)), 0)) ∨ (¬ In.Fit (In.sgn (Q + 1) (true != ny)) ∧ In.fit (In.sgn (Q + 1) (true != ny)) = (⟨#[]⟩, 30)) := by
          by_cases h : In.Fit (In.sgn (Q + 1) (true != ny))
          · exact .inl ⟨h, In.fit_pos h⟩
          · exact .inr ⟨h, In.fit_neg h⟩
        have hsg : In.sgn (Y - R) false = ((Y - R : Nat) : Int) := rfl
        rw [hsg] at CT
        have hRL : 0 < (In.dg R).length := by
          rcases Nat.eq_zero_or_pos (In.dg R).length with h | h
          · have := In.dg_nil.1 h; omega
          · exact h
        clear hsg
        rcases key with ⟨k1, k2⟩ | ⟨k1, k2⟩
        · rw [if_pos k1]
          rw [k2] at CC
          generalize In.txt ((Y - R : Nat) : Int) = S2 at *
          generalize decide ((In.dg (Y - R)).length ≤ 200) = B2 at *
          clear k1 k2 lx ly lq lr lq1 l1 lm hml hp
          cases ny
          all_goals
            go_enter Tryz.func52, Tryz.ntmps52
            go_wp2_with fail
            with_reducible refine Calls.mono (V1.out _) ?_
            rintro e w' ⟨rfl, rfl⟩
            go_wp2_with fail
            with_reducible refine Calls.mono (V2.out _) ?_
            rintro e w' ⟨rfl, rfl⟩
            go_wp2_with fail
            with_reducible refine Calls.mono (D1.out _) ?_
            rintro e w1 ⟨u, rfl, hu, hb⟩
            have HU := Lib.hid (And.intro hu hb)
            clear hu hb
            go_wp2_with fail
            with_reducible refine Calls.mono (D2.out _) ?_
            rintro e w2 ⟨v, rfl, hv, hb⟩
            have HV := Lib.hid (And.intro hv (And.intro (HU.out.1.next hb) (Below.andThen HU.out.2 hb)))
            clear hv hb
            go_wp2_with fail
            with_reducible refine Calls.mono (CD.out _ _ _ HV.out.2.1 HV.out.1) ?_
            rintro e w3 ⟨q, r, rfl, hq, hr, hb⟩
            have HQ := Lib.hid (And.intro hq (And.intro hr (And.intro (HV.out.1.next hb) (Below.andThen HV.out.2.2 hb))))
            obtain ⟨ro, rc, rfl, _⟩ := hr.ex
            clear hq hr hb
            generalize (In.dg R).length = RL at *
            have d5 : decide (0 < (RL : Int)) = true := by rw [decide_eq_true_eq]; omega
            go_wp2_with fail
            refine Calls.mono (CP.out _ _ _ (HQ.out.1.next ((Below.refl _ _).alloc (Nat.le_refl _) _)) (dsl_one' _)) ?_
            rintro e w4 ⟨q2, rfl, hq, hb⟩
            have hb4 : Below w3.heap.size w3 w4 := Below.andThen ((Below.refl _ _).alloc (Nat.le_refl _) _) hb
            have HQ4 := Lib.hid (And.intro hq (And.intro (HQ.out.2.1.next hb4) (And.intro (HQ.out.2.2.1.next hb4) (Below.andThen HQ.out.2.2.2 hb4))))
            clear hq hb hb4
            go_wp2_with fail
            with_reducible refine Calls.mono (CM.out _ _ _ HQ4.out.2.2.1 HQ4.out.2.1) ?_
            rintro e w5 ⟨r2, rfl, hr, hb⟩
            have HQ5 := Lib.hid (And.intro (HQ4.out.1.next hb) (And.intro hr (Below.andThen HQ4.out.2.2.2 hb)))
            clear hr hb
            go_wp2_with fail
            refine Calls.mono (CC.out _ _ HQ5.out.1) ?_
            rintro e w6 ⟨rfl, hb⟩
            have HQ6 := Lib.hid (And.intro (HQ5.out.2.1.next hb) (Below.andThen HQ5.out.2.2 hb))
            clear hb
            go_wp2_with fail
            with_reducible refine Calls.mono (CT.out _ _ HQ6.out.1) ?_
            rintro e w7 ⟨rfl, hb⟩
            have HB := Lib.hid (Below.andThen HQ6.out.2 hb)
            clear hb
            go_wp2_with fail
            go_ret3
            exact ⟨rfl, HB.out⟩
        · rw [if_neg k1]
          rw [k2] at CC
          generalize In.txt ((Y - R : Nat) : Int) = S2 at *
          generalize decide ((In.dg (Y - R)).length ≤ 200) = B2 at *
          clear k1 k2 lx ly lq lr lq1 l1 lm hml hp
          cases ny
          all_goals
            go_enter Tryz.func52, Tryz.ntmps52
            go_wp2_with fail
            with_reducible refine Calls.mono (V1.out _) ?_
            rintro e w' ⟨rfl, rfl⟩
            go_wp2_with fail
            with_reducible refine Calls.mono (V2.out _) ?_
            rintro e w' ⟨rfl, rfl⟩
            go_wp2_with fail
            with_reducible refine Calls.mono (D1.out _) ?_
            rintro e w1 ⟨u, rfl, hu, hb⟩
            have HU := Lib.hid (And.intro hu hb)
            clear hu hb
            go_wp2_with fail
            with_reducible refine Calls.mono (D2.out _) ?_
            rintro e w2 ⟨v, rfl, hv, hb⟩
            have HV := Lib.hid (And.intro hv (And.intro (HU.out.1.next hb) (Below.andThen HU.out.2 hb)))
            clear hv hb
            go_wp2_with fail
            with_reducible refine Calls.mono (CD.out _ _ _ HV.out.2.1 HV.out.1) ?_
            rintro e w3 ⟨q, r, rfl, hq, hr, hb⟩
            have HQ := Lib.hid (And.intro hq (And.intro hr (And.intro (HV.out.1.next hb) (Below.andThen HV.out.2.2 hb))))
            obtain ⟨ro, rc, rfl, _⟩ := hr.ex
            clear hq hr hb
            generalize (In.dg R).length = RL at *
            have d5 : decide (0 < (RL : Int)) = true := by rw [decide_eq_true_eq]; omega
            go_wp2_with fail
            refine Calls.mono (CP.out _ _ _ (HQ.out.1.next ((Below.refl _ _).alloc (Nat.le_refl _) _)) (dsl_one' _)) ?_
            rintro e w4 ⟨q2, rfl, hq, hb⟩
            have hb4 : Below w3.heap.size w3 w4 := Below.andThen ((Below.refl _ _).alloc (Nat.le_refl _) _) hb
            have HQ4 := Lib.hid (And.intro hq (And.intro (HQ.out.2.1.next hb4) (And.intro (HQ.out.2.2.1.next hb4) (Below.andThen HQ.out.2.2.2 hb4))))
            clear hq hb hb4
            go_wp2_with fail
            with_reducible refine Calls.mono (CM.out _ _ _ HQ4.out.2.2.1 HQ4.out.2.1) ?_
            rintro e w5 ⟨r2, rfl, hr, hb⟩
            have HQ5 := Lib.hid (And.intro (HQ4.out.1.next hb) (And.intro hr (Below.andThen HQ4.out.2.2.2 hb)))
            clear hr hb
            go_wp2_with fail
            refine Calls.mono (CC.out _ _ HQ5.out.1) ?_
            rintro e w6 ⟨rfl, hb⟩
            have HQ6 := Lib.hid (And.intro (HQ5.out.2.1.next hb) (Below.andThen HQ5.out.2.2 hb))
            clear hb
            go_wp2_with fail
            with_reducible refine Calls.mono (CT.out _ _ HQ6.out.1) ?_
            rintro e w7 ⟨rfl, hb⟩
            have HB := Lib.hid (Below.andThen HQ6.out.2 hb)
            clear hb
            go_wp2_with fail
            go_ret3
            exact ⟨rfl, HB.out⟩
      · rw [show (nx && decide (0 < R)) = false by
          cases nx with
          | false => rfl
          | true => rw [decide_eq_false (fun h => hno ⟨rfl, h⟩)]; rfl]
        simp only [Bool.false_eq_true, if_false]
        have CC := Lib.hid (fun W v h => rchecked_any (nx != ny) v Q W h (by omega))
        have CT := Lib.hid (fun W v h => rtext_any v R false W h (by omega))
        have key : (In.Fit (In.sgn Q (nx != ny)) ∧ In.fit (In.sgn Q (nx != ny)) = (In.txt (In.sgn Q (nx != ny)), 0)) ∨ (¬ In.Fit (In.sgn Q (nx != ny)) ∧ In.fit (In.sgn Q (nx != ny)) = (⟨#[]⟩, 30)) := by
          by_cases h : In.Fit (In.sgn Q (nx != ny))
          · exact .inl ⟨h, In.fit_pos h⟩
          · exact .inr ⟨h, In.fit_neg h⟩
        have hsg : In.sgn R false = ((R : Nat) : Int) := rfl
        rw [hsg] at CT
        have hRL : (In.dg R).length = 0 ∨ nx = false := by
          cases nx with
          | false => exact .inr rfl
          | true =>
            refine .inl (In.dg_nil.2 ?_)
            rcases Nat.eq_zero_or_pos R with h | h
            · exact h
            · exact absurd ⟨rfl, h⟩ hno
        clear hsg hno
        rcases key with ⟨k1, k2⟩ | ⟨k1, k2⟩
        · rw [if_pos k1]
          rw [k2] at CC
          generalize In.txt ((R : Nat) : Int) = S2 at *
          generalize decide ((In.dg R).length ≤ 200) = B2 at *
          clear k1 k2 lx ly lq lr hml hp
          rcases hRL with hRL | rfl
          · cases nx
            all_goals
              cases ny
              all_goals
                go_enter Tryz.func52, Tryz.ntmps52
                go_wp2_with fail
                with_reducible refine Calls.mono (V1.out _) ?_
                rintro e w' ⟨rfl, rfl⟩
                go_wp2_with fail
                with_reducible refine Calls.mono (V2.out _) ?_
                rintro e w' ⟨rfl, rfl⟩
                go_wp2_with fail
                with_reducible refine Calls.mono (D1.out _) ?_
                rintro e w1 ⟨u, rfl, hu, hb⟩
                have HU := Lib.hid (And.intro hu hb)
                clear hu hb
                go_wp2_with fail
                with_reducible refine Calls.mono (D2.out _) ?_
                rintro e w2 ⟨v, rfl, hv, hb⟩
                have HV := Lib.hid (And.intro hv (And.intro (HU.out.1.next hb) (Below.andThen HU.out.2 hb)))
                clear hv hb
                go_wp2_with fail
                with_reducible refine Calls.mono (CD.out _ _ _ HV.out.2.1 HV.out.1) ?_
                rintro e w3 ⟨q, r, rfl, hq, hr, hb⟩
                have HQ := Lib.hid (And.intro hq (And.intro hr (And.intro (HV.out.1.next hb) (Below.andThen HV.out.2.2 hb))))
                obtain ⟨ro, rc, rfl, _⟩ := hr.ex
                clear hq hr hb
                rw [hRL] at HQ ⊢
                have e5 : ((0 : Nat) : Int) = 0 := rfl
                go_wp2_with fail
                have HQ5 := Lib.hid (And.intro HQ.out.1 (And.intro HQ.out.2.1 HQ.out.2.2.2))
                refine Calls.mono (CC.out _ _ HQ5.out.1) ?_
                rintro e w6 ⟨rfl, hb⟩
                have HQ6 := Lib.hid (And.intro (HQ5.out.2.1.next hb) (Below.andThen HQ5.out.2.2 hb))
                clear hb
                go_wp2_with fail
                with_reducible refine Calls.mono (CT.out _ _ HQ6.out.1) ?_
                rintro e w7 ⟨rfl, hb⟩
                have HB := Lib.hid (Below.andThen HQ6.out.2 hb)
                clear hb
                go_wp2_with fail
                go_ret3
                exact ⟨rfl, HB.out⟩
          · cases ny
            all_goals
              go_enter Tryz.func52, Tryz.ntmps52
              go_wp2_with fail
              with_reducible refine Calls.mono (V1.out _) ?_
              rintro e w' ⟨rfl, rfl⟩
              go_wp2_with fail
              with_reducible refine Calls.mono (V2.out _) ?_
              rintro e w' ⟨rfl, rfl⟩
              go_wp2_with fail
              with_reducible refine Calls.mono (D1.out _) ?_
              rintro e w1 ⟨u, rfl, hu, hb⟩
              have HU := Lib.hid (And.intro hu hb)
              clear hu hb
              go_wp2_with fail
              with_reducible refine Calls.mono (D2.out _) ?_
              rintro e w2 ⟨v, rfl, hv, hb⟩
              have HV := Lib.hid (And.intro hv (And.intro (HU.out.1.next hb) (Below.andThen HU.out.2 hb)))
              clear hv hb
              go_wp2_with fail
              with_reducible refine Calls.mono (CD.out _ _ _ HV.out.2.1 HV.out.1) ?_
              rintro e w3 ⟨q, r, rfl, hq, hr, hb⟩
              have HQ := Lib.hid (And.intro hq (And.intro hr (And.intro (HV.out.1.next hb) (Below.andThen HV.out.2.2 hb))))
              obtain ⟨ro, rc, rfl, _⟩ := hr.ex
              clear hq hr hb
              generalize (In.dg R).length = RL at *
              go_wp2_with fail
              have HQ5 := Lib.hid (And.intro HQ.out.1 (And.intro HQ.out.2.1 HQ.out.2.2.2))
              refine Calls.mono (CC.out _ _ HQ5.out.1) ?_
              rintro e w6 ⟨rfl, hb⟩
              have HQ6 := Lib.hid (And.intro (HQ5.out.2.1.next hb) (Below.andThen HQ5.out.2.2 hb))
              clear hb
              go_wp2_with fail
              with_reducible refine Calls.mono (CT.out _ _ HQ6.out.1) ?_
              rintro e w7 ⟨rfl, hb⟩
              have HB := Lib.hid (Below.andThen HQ6.out.2 hb)
              clear hb
              go_wp2_with fail
              go_ret3
              exact ⟨rfl, HB.out⟩
        · rw [if_neg k1]
          rw [k2] at CC
          generalize In.txt ((R : Nat) : Int) = S2 at *
          generalize decide ((In.dg R).length ≤ 200) = B2 at *
          clear k1 k2 lx ly lq lr hml hp
          rcases hRL with hRL | rfl
          · cases nx
            all_goals
              cases ny
              all_goals
                go_enter Tryz.func52, Tryz.ntmps52
                go_wp2_with fail
                with_reducible refine Calls.mono (V1.out _) ?_
                rintro e w' ⟨rfl, rfl⟩
                go_wp2_with fail
                with_reducible refine Calls.mono (V2.out _) ?_
                rintro e w' ⟨rfl, rfl⟩
                go_wp2_with fail
                with_reducible refine Calls.mono (D1.out _) ?_
                rintro e w1 ⟨u, rfl, hu, hb⟩
                have HU := Lib.hid (And.intro hu hb)
                clear hu hb
                go_wp2_with fail
                with_reducible refine Calls.mono (D2.out _) ?_
                rintro e w2 ⟨v, rfl, hv, hb⟩
                have HV := Lib.hid (And.intro hv (And.intro (HU.out.1.next hb) (Below.andThen HU.out.2 hb)))
                clear hv hb
                go_wp2_with fail
                with_reducible refine Calls.mono (CD.out _ _ _ HV.out.2.1 HV.out.1) ?_
                rintro e w3 ⟨q, r, rfl, hq, hr, hb⟩
                have HQ := Lib.hid (And.intro hq (And.intro hr (And.intro (HV.out.1.next hb) (Below.andThen HV.out.2.2 hb))))
                obtain ⟨ro, rc, rfl, _⟩ := hr.ex
                clear hq hr hb
                rw [hRL] at HQ ⊢
                have e5 : ((0 : Nat) : Int) = 0 := rfl
                go_wp2_with fail
                have HQ5 := Lib.hid (And.intro HQ.out.1 (And.intro HQ.out.2.1 HQ.out.2.2.2))
                refine Calls.mono (CC.out _ _ HQ5.out.1) ?_
                rintro e w6 ⟨rfl, hb⟩
                have HQ6 := Lib.hid (And.intro (HQ5.out.2.1.next hb) (Below.andThen HQ5.out.2.2 hb))
                clear hb
                go_wp2_with fail
                with_reducible refine Calls.mono (CT.out _ _ HQ6.out.1) ?_
                rintro e w7 ⟨rfl, hb⟩
                have HB := Lib.hid (Below.andThen HQ6.out.2 hb)
                clear hb
                go_wp2_with fail
                go_ret3
                exact ⟨rfl, HB.out⟩
          · cases ny
            all_goals
              go_enter Tryz.func52, Tryz.ntmps52
              go_wp2_with fail
              with_reducible refine Calls.mono (V1.out _) ?_
              rintro e w' ⟨rfl, rfl⟩
              go_wp2_with fail
              with_reducible refine Calls.mono (V2.out _) ?_
              rintro e w' ⟨rfl, rfl⟩
              go_wp2_with fail
              with_reducible refine Calls.mono (D1.out _) ?_
              rintro e w1 ⟨u, rfl, hu, hb⟩
              have HU := Lib.hid (And.intro hu hb)
              clear hu hb
              go_wp2_with fail
              with_reducible refine Calls.mono (D2.out _) ?_
              rintro e w2 ⟨v, rfl, hv, hb⟩
              have HV := Lib.hid (And.intro hv (And.intro (HU.out.1.next hb) (Below.andThen HU.out.2 hb)))
              clear hv hb
              go_wp2_with fail
              with_reducible refine Calls.mono (CD.out _ _ _ HV.out.2.1 HV.out.1) ?_
              rintro e w3 ⟨q, r, rfl, hq, hr, hb⟩
              have HQ := Lib.hid (And.intro hq (And.intro hr (And.intro (HV.out.1.next hb) (Below.andThen HV.out.2.2 hb))))
              obtain ⟨ro, rc, rfl, _⟩ := hr.ex
              clear hq hr hb
              generalize (In.dg R).length = RL at *
              go_wp2_with fail
              have HQ5 := Lib.hid (And.intro HQ.out.1 (And.intro HQ.out.2.1 HQ.out.2.2.2))
              refine Calls.mono (CC.out _ _ HQ5.out.1) ?_
              rintro e w6 ⟨rfl, hb⟩
              have HQ6 := Lib.hid (And.intro (HQ5.out.2.1.next hb) (Below.andThen HQ5.out.2.2 hb))
              clear hb
              go_wp2_with fail
              with_reducible refine Calls.mono (CT.out _ _ HQ6.out.1) ?_
              rintro e w7 ⟨rfl, hb⟩
              have HB := Lib.hid (Below.andThen HQ6.out.2 hb)
              clear hb
              go_wp2_with fail
              go_ret3
              exact ⟨rfl, HB.out⟩
end Go.Proofs.YtlehjmanlccncaaGreatDoor
set_option linter.unusedVariables false
set_option linter.unusedSimpArgs false
namespace Go.Proofs.YtlehjmanlccncaaGreatDoor
open Go.RowKit

theorem DSl.inj {w : World} {v : Value} {n m : Nat} (h : DSl w v n) (k : DSl w v m) : n = m := by
  obtain ⟨o, c, rfl, h1, h2, h3, h4⟩ := h.ex
  obtain ⟨o', c', e, k1, k2, k3, k4⟩ := k.ex
  have hl : (In.dg n).length = (In.dg m).length := by injection e
  have ho : o = o' := by injection e
  subst ho
  refine In.gr_inj (B := 10) (by decide) ?_
  apply List.ext_getElem?
  intro j
  rcases Nat.lt_or_ge j (In.dg n).length with hj | hj
  · rcases h4 with h4 | ⟨b, off, rfl, hb, hc⟩
    · rw [h4] at hj; simp at hj
    · rcases k4 with k4 | ⟨b', off', e', hb', hc'⟩
      · rw [k4] at hl; simp at hl; rw [hl] at hj; simp at hj
      · cases e'
        have a1 := hc j _ (List.getElem?_eq_getElem hj)
        have a2 := hc' j _ (List.getElem?_eq_getElem (by rw [← hl]; exact hj))
        rw [a1] at a2
        injection a2 with a3
        injection a3 with _ a4
        show (In.dg n)[j]? = (In.dg m)[j]?
        rw [List.getElem?_eq_getElem hj, List.getElem?_eq_getElem (by rw [← hl]; exact hj)]
        congr 1
        omega
  · show (In.dg n)[j]? = (In.dg m)[j]?
    rw [List.getElem?_eq_none hj, List.getElem?_eq_none (by omega)]
open Classical in
/-- the number whose digits a slice holds -/
noncomputable def dnatOf (w : World) (v : Value) : Nat := if h : ∃ n, DSl w v n then Classical.choose h else 0
theorem dnatOf_is {w : World} {v : Value} {n : Nat} (h : DSl w v n) : dnatOf w v = n := by
  have h0 : ∃ n, DSl w v n := ⟨n, h⟩
  unfold dnatOf
  rw [dif_pos h0]
  exact DSl.inj (Classical.choose_spec h0) h
def DLe (n k : Nat) : Prop := (In.dg n).length ≤ k
set_option maxRecDepth 100000 in
set_option maxHeartbeats 4000000 in
theorem rGcd_any (a b : ByteArray) (w : World) (ha : a.size ≤ maxLen) (hb : b.size ≤ maxLen) :
    Calls Tryz.prog 60 #[.string a, .string b] w fun e w' => e = .returned (.tuple #[.string (In.opS In.gcdZ a b).1, .int .i64 (In.opS In.gcdZ a b).2]) ∧ Below w.heap.size w w' := by
  cases hx : In.num a with
  | none =>
    have V1 := Lib.hid (fun W => valid_none hx W ha)
    rw [In.opS_left hx]
    clear hx ha hb
    go_enter Tryz.func60, Tryz.ntmps60
    go_wp2_with fail
    with_reducible refine Calls.mono (V1.out _) ?_
    rintro e w' ⟨rfl, rfl⟩
    go_wp2_with fail
    go_ret2
    exact ⟨rfl, Below.refl _ _⟩
  | some x =>
    have V1 := Lib.hid (fun W => valid_some hx W ha)
    cases hy : In.num b with
    | none =>
      have V2 := Lib.hid (fun W => valid_none hy W hb)
      rw [In.opS_right hy]
      clear hx hy ha hb
      go_enter Tryz.func60, Tryz.ntmps60
      go_wp2_with fail
      with_reducible refine Calls.mono (V1.out _) ?_
      rintro e w' ⟨rfl, rfl⟩
      go_wp2_with fail
      with_reducible refine Calls.mono (V2.out _) ?_
      rintro e w' ⟨rfl, rfl⟩
      go_wp2_with fail
      go_ret2
      exact ⟨rfl, Below.refl _ _⟩
    | some y =>
      have V2 := Lib.hid (fun W => valid_some hy W hb)
      rw [In.opS_some hx hy]
      have lx := fit_abs hx
      have ly := fit_abs hy
      have D1 := Lib.hid (fun W => rdigits_any a x W hx)
      have D2 := Lib.hid (fun W => rdigits_any b y W hy)
      obtain ⟨G, hG⟩ : ∃ G, G = Nat.gcd x.natAbs y.natAbs := ⟨_, rfl⟩
      have HG := Lib.hid hG
      have lG : DLe G 900 := by
        show (In.dg G).length ≤ 900
        rw [hG]
        rcases Nat.eq_zero_or_pos x.natAbs with h | h
        · rw [h, Nat.gcd_zero_left]; omega
        · have := In.dg_mono (Nat.gcd_le_left y.natAbs h); omega
      have CC := Lib.hid (fun W v h => rchecked_any false v G W h (Nat.le_trans (show (In.dg G).length ≤ 900 from lG) (by decide)))
      rw [show In.sgn G false = In.gcdZ x y from by rw [hG]; rfl] at CC
      have HL := Lib.hid (And.intro lx ly)
      generalize In.fit (In.gcdZ x y) = R at *
      obtain ⟨R1, R2⟩ := R
      clear lx ly hx hy ha hb hG lG
      generalize x.natAbs = X at *
      generalize y.natAbs = Y at *
      generalize In.neg x = nx at *
      generalize In.neg y = ny at *
      go_enter Tryz.func60, Tryz.ntmps60
      go_wp2_with fail
      with_reducible refine Calls.mono (V1.out _) ?_
      rintro e w' ⟨rfl, rfl⟩
      go_wp2_with fail
      with_reducible refine Calls.mono (V2.out _) ?_
      rintro e w' ⟨rfl, rfl⟩
      go_wp2_with fail
      with_reducible refine Calls.mono (D1.out _) ?_
      rintro e w1 ⟨u, rfl, hu, hb⟩
      have HU := Lib.hid (And.intro hu hb)
      clear hu hb
      go_wp2_with fail
      with_reducible refine Calls.mono (D2.out _) ?_
      rintro e w2 ⟨v, rfl, hv, hb⟩
      have HV := Lib.hid (And.intro hv (And.intro (HU.out.1.next hb) (Below.andThen HU.out.2 hb)))
      clear hv hb
      go_wp2_with fail
      go_loopw [7, 9] (fun nv mv wr => ∃ N M, DSl wr nv N ∧ DSl wr mv M ∧ Nat.gcd N M = G ∧ DLe N 900 ∧ DLe M 900 ∧ Below w.heap.size w wr) (fun _ mv wr => dnatOf wr mv)
      case atStart => exact ⟨X, Y, HV.out.2.1, HV.out.1, HG.out.symm, Nat.le_trans HL.out.1 (by decide), Nat.le_trans HL.out.2 (by decide), HV.out.2.2⟩
      case round =>
        clear HV
        obtain ⟨N, M, hn, hm, hg, lN, lM, hB⟩ := hrel
        have hmeas := Lib.hid (dnatOf_is hm)
        have HNM := Lib.hid (And.intro hn (And.intro hm (And.intro hg hB)))
        have hM0 := In.dg_nil (n := M)
        obtain ⟨o1, c1, rfl, _⟩ := hn.ex
        obtain ⟨o2, c2, rfl, _⟩ := hm.ex
        clear hg hB hn hm
        by_cases h0 : M = 0
        · subst h0
          have e0 : (In.dg 0).length = 0 := rfl
          have hgg : N = G := by
            have := HNM.out.2.2.1
            rwa [Nat.gcd_zero_right] at this
          subst hgg
          have CC2 := Lib.hid (CC.out _ _ HNM.out.1)
          generalize (In.dg N).length = LN at *
          rw [e0]
          clear hM0 e0
          go_wp2_with fail
          with_reducible refine Calls.mono CC2.out ?_
          rintro e w3 ⟨rfl, hb⟩
          have HB := Lib.hid (Below.andThen HNM.out.2.2.2 hb)
          clear hb
          go_wp2_with fail
          go_ret2
          exact ⟨rfl, HB.out⟩
        · have hp : 0 < M := by omega
          have CO := Lib.hid (rdivided_any (.slice o1 (In.dg N).length c1) (.slice o2 (In.dg M).length c2) N M wr HNM.out.1 HNM.out.2.1 hp lN lM)
          have HLM : DLe M 900 ∧ DLe (N % M) 900 := (And.intro lM (Nat.le_trans (In.dg_mono (Nat.le_of_lt (Nat.mod_lt N hp))) lM))
          have HG2 := Lib.hid (show Nat.gcd M (N % M) = G from by
            have h1 := HNM.out.2.2.1
            rw [Nat.gcd_comm, Nat.gcd_rec, Nat.gcd_comm] at h1
            exact h1)
          have hlt := Lib.hid (Nat.mod_lt N hp)
          have hpos : 0 < (In.dg M).length := by
            rcases Nat.eq_zero_or_pos (In.dg M).length with h | h
            · exact absurd (hM0.1 h) h0
            · exact h
          clear lN lM hM0 h0
          generalize (In.dg M).length = LM at *
          generalize (In.dg N).length = LN at *
          go_wp2_with fail
          with_reducible refine Calls.mono CO.out ?_
          rintro e w3 ⟨q, r, rfl, hq, hr, hb⟩
          have HK := Lib.hid (And.intro hr hb)
          clear hq hr hb
          go_wp2_with fail
          go_roundw
          case rel => exact ⟨M, N % M, HNM.out.2.1.next HK.out.2, HK.out.1, HG2.out, HLM.1, HLM.2, Below.andThen HNM.out.2.2.2 HK.out.2⟩
          case measure => rw [dnatOf_is HK.out.1, hmeas.out]; exact hlt.out
end Go.Proofs.YtlehjmanlccncaaGreatDoor
set_option linter.unusedVariables false
set_option linter.unusedSimpArgs false
namespace Go.Proofs.YtlehjmanlccncaaGreatDoor
open Go.RowKit

theorem cmpN_more (a b : Nat) : decide (0 < In.cmpN a b) = decide (b < a) := by
  unfold In.cmpN
  split
  · rw [decide_eq_false (by omega), decide_eq_false (by omega)]
  · split
    · rw [decide_eq_true (by omega), decide_eq_true (by omega)]
    · rw [decide_eq_false (by omega), decide_eq_false (by omega)]
theorem root_val (m d : Nat) (qs : List Nat) : In.nv 10 (List.replicate m 0 ++ d :: qs) = In.nv 10 qs * 10 ^ (m + 1) + d * 10 ^ m := by
  rw [In.nv_zeros_front, In.nv_cons, Nat.mul_add, Nat.pow_succ]
  have e1 : 10 ^ m * (10 * In.nv 10 qs) = In.nv 10 qs * (10 ^ m * 10) := by ac_rfl
  rw [e1, Nat.mul_comm (10 ^ m) d]
  omega
end Go.Proofs.YtlehjmanlccncaaGreatDoor
set_option linter.unusedVariables false
set_option linter.unusedSimpArgs false
namespace Go.Proofs.YtlehjmanlccncaaGreatDoor
open Go.RowKit

theorem sgn_two (m : Int) (q : Nat) (h : m.natAbs = q) : m = (q : Int) ∨ m = -(q : Int) := by omega
theorem dg_next {n j : Nat} (h : j < (In.dg n).length) : (In.dg n).take (j + 1) = (In.dg n).take j ++ [n / 10 ^ j % 10] := by
  rw [List.take_add_one, In.dg_at h, Option.toList_some]
theorem div_more {n j : Nat} : n / 10 ^ j / 10 = n / 10 ^ (j + 1) := by rw [Nat.div_div_eq_div_mul, ← Nat.pow_succ]
set_option maxRecDepth 100000 in
set_option maxHeartbeats 4000000 in
theorem rFromInt_any (n : Int) (w : World) (hn : -9223372036854775808 ≤ n ∧ n ≤ 9223372036854775807) :
    Calls Tryz.prog 43 #[.int .i64 n] w fun e w' => e = .returned (.string (In.txt n)) ∧ Below w.heap.size w w' := by
  obtain ⟨i0, hi, hz0, hz1, hz2⟩ := info_parts infoInt
  obtain ⟨u, hu⟩ : ∃ u, n.natAbs = u := ⟨_, rfl⟩
  have hu2 : u ≤ 9223372036854775808 := by omega
  have hl : (In.dg u).length ≤ 19 := In.dg_len_le (Nat.lt_of_le_of_lt hu2 (by decide))
  have hsg := In.sgn_neg n
  rw [hu] at hsg
  have CT := Lib.hid (fun W v (h : DSl W v u) => rtext_any v u (In.neg n) W h (by omega))
  rw [hsg] at CT
  have HU := Lib.hid hu
  clear hsg
  generalize In.txt n = S at *
  go_enter Tryz.func43, Tryz.ntmps43
  go_wp2_with fail
  go_loopw [3, 4] (fun lv mv wr => ∃ (j : Nat) (m : Int), mv = .int .i64 m ∧ m.natAbs = u / 10 ^ j ∧ j ≤ (In.dg u).length ∧ wr.ownsRow w.heap.size 3 1 lv j (((In.dg u).take j).map natV) ∧ Below w.heap.size w wr) (fun _ mv _ => (intOf mv).natAbs)
  case atStart => exact ⟨0, n, rfl, by rw [HU.out, Nat.pow_zero, Nat.div_one], Nat.zero_le _, World.ownsRow_nil _ _ _ _, Below.refl _ _⟩
  case round =>
    obtain ⟨j, m, rfl, hm, hj, hrow, hB⟩ := hrel
    have hsm : u / 10 ^ j ≤ u := Nat.div_le_self _ _
    have hout := In.dg_out (n := u) (i := j)
    have hj0 : j = (In.dg u).length → u / 10 ^ j = 0 := fun h => by rw [h]; exact In.dg_top u
    have hj1 : j < (In.dg u).length → 10 ^ j ≤ u := In.dg_big
    have hnx := dg_next (n := u) (j := j)
    have hdv := div_more (n := u) (j := j)
    obtain ⟨q, hq⟩ : ∃ q, u / 10 ^ j = q := ⟨_, rfl⟩
    rw [hq] at hm hsm hout hj0 hnx hdv
    rcases Nat.eq_zero_or_pos q with h0 | hqp
    · have hm0 : m = 0 := by omega
      have hjl : j = (In.dg u).length := by
        rcases Nat.lt_or_ge j (In.dg u).length with h | h
        · have h1 := hj1 h
          have h2 := (Nat.div_eq_zero_iff (a := u) (b := 10 ^ j)).1 (by rw [hq, h0])
          have h3 : 0 < 10 ^ j := Nat.pow_pos (by decide)
          omega
        · omega
      rw [hjl, List.take_length] at hrow
      obtain ⟨o, c, rfl, k1, k2, k3, k4⟩ := own_nats hrow
      unfold maxLen at k2
      have CT2 := Lib.hid (CT.out wr _ (DSl.mk' rfl k1 (by omega) k3 k4))
      rw [show In.neg n = decide (n < 0) from rfl] at CT2
      have HB := Lib.hid hB
      subst hm0
      generalize (In.dg u).length = LU at *
      clear hm hsm hout hj0 hj1 hnx hdv hrow hB k1 k2 k3 k4 hq hjl hj
      go_wp2_with fail
      with_reducible refine Calls.mono CT2.out ?_
      rintro e w3 ⟨rfl, hb⟩
      have HF := Lib.hid (Below.andThen HB.out hb)
      clear hb
      go_wp2_with fail
      go_ret
      exact ⟨rfl, HF.out⟩
    · have hjl : j < (In.dg u).length := by
        rcases Nat.lt_or_ge j (In.dg u).length with h | h
        · exact h
        · have := hj0 (by omega); omega
      have HNX := Lib.hid (hnx hjl)
      have t1 : (q : Int).tmod 10 = ((q % 10 : Nat) : Int) := by rw [Int.tmod_eq_emod_of_nonneg (by omega)]; rfl
      have t2 : (q : Int).tdiv 10 = ((q / 10 : Nat) : Int) := by rw [Int.tdiv_eq_ediv_of_nonneg (by omega)]; rfl
      have t3 : (q : Int) % 10 = ((q % 10 : Nat) : Int) := rfl
      have t4 : (q : Int) / 10 = ((q / 10 : Nat) : Int) := rfl
      have he : q % 10 < 10 := Nat.mod_lt _ (by decide)
      have HQ := Lib.hid (show q / 10 < q by omega)
      have hgq : q / 10 ≤ q := Nat.div_le_self _ _
      have HG := Lib.hid hdv
      have HR := Lib.hid hrow
      have HB := Lib.hid hB
      have hob := Lib.hid (own_block hrow)
      have hbs := hB.size
      generalize q % 10 = e at *
      generalize q / 10 = g at *
      have hd := sgn_two m q hm
      clear hm hout hj0 hj1 hnx hdv hrow hB
      rcases hd with rfl | rfl
      · have d1 : ((q : Int) != 0) = true := by simp; omega
        have d2 : decide ((q : Int) = 0) = false := by simp; omega
        have d3 : decide ((e : Int) < 0) = false := by simp
        ·
          go_wp2_with (at_builtin; refine wpList_append_nats rfl _ _ 40 Tryz.underlying40 rfl rfl w.heap.size _ j ((In.dg u).take j) rfl (HR.out.alloc _) (some ⟨wr.heap.size, 0, none⟩) 1 1 [e] rfl rfl (fun h => by cases h) (lsl_one _ _ e (by omega)) (by omega) (by simp; omega) ?_; intro v' w1 hown' hgrow; have K := Lib.hid (And.intro hown' hgrow); clear hown' hgrow)
          go_roundw
          case rel => exact ⟨j + 1, (g : Int), by go_num, by have := HG.out; omega, by omega, own_is K.out.1 rfl (by rw [HNX.out]), (HB.out.alloc hbs _).grown K.out.2 (by simp; omega) hob.out⟩
          case measure => have := HQ.out; simp [intOf]; omega
      · have d1 : (-(q : Int) != 0) = true := by simp; omega
        have d2 : decide (-(q : Int) = 0) = false := by simp; omega
        have d4 : decide ((q : Int) = 0) = false := by simp; omega
        have s1 : (-(q : Int)).tmod 10 = -(e : Int) := by rw [Int.neg_tmod, t1]
        have s2 : (-(q : Int)).tdiv 10 = -(g : Int) := by rw [Int.neg_tdiv, t2]
        rcases Nat.eq_zero_or_pos e with h0 | hep
        · have d3 : decide (-(e : Int) < 0) = false := by simp; omega
          have d5 : decide (0 < (e : Int)) = false := by simp; omega
          go_wp2_with (at_builtin; refine wpList_append_nats rfl _ _ 40 Tryz.underlying40 rfl rfl w.heap.size _ j ((In.dg u).take j) rfl (HR.out.alloc _) (some ⟨wr.heap.size, 0, none⟩) 1 1 [e] rfl rfl (fun h => by cases h) (lsl_one _ _ e (by omega)) (by omega) (by simp; omega) ?_; intro v' w1 hown' hgrow; have K := Lib.hid (And.intro hown' hgrow); clear hown' hgrow)
          go_roundw
          case rel => exact ⟨j + 1, -(g : Int), by go_num, by have := HG.out; omega, by omega, own_is K.out.1 rfl (by rw [HNX.out]), (HB.out.alloc hbs _).grown K.out.2 (by simp; omega) hob.out⟩
          case measure => have := HQ.out; simp [intOf]; omega
        · have d3 : decide (-(e : Int) < 0) = true := by simp; omega
          have d5 : decide (0 < (e : Int)) = true := by simp; omega
          go_wp2_with (at_builtin; refine wpList_append_nats rfl _ _ 40 Tryz.underlying40 rfl rfl w.heap.size _ j ((In.dg u).take j) rfl (HR.out.alloc _) (some ⟨wr.heap.size, 0, none⟩) 1 1 [e] rfl rfl (fun h => by cases h) (lsl_one _ _ e (by omega)) (by omega) (by simp; omega) ?_; intro v' w1 hown' hgrow; have K := Lib.hid (And.intro hown' hgrow); clear hown' hgrow)
          go_roundw
          case rel => exact ⟨j + 1, -(g : Int), by go_num, by have := HG.out; omega, by omega, own_is K.out.1 rfl (by rw [HNX.out]), (HB.out.alloc hbs _).grown K.out.2 (by simp; omega) hob.out⟩
          case measure => have := HQ.out; simp [intOf]; omega
end Go.Proofs.YtlehjmanlccncaaGreatDoor
set_option linter.unusedVariables false
set_option linter.unusedSimpArgs false
namespace Go.Proofs.YtlehjmanlccncaaGreatDoor
open Go.RowKit

theorem val10_take_le (l : List UInt8) (k : Nat) : In.val10 (l.take k) ≤ In.val10 l := by
  have h := In.val10_append (l.take k) (l.drop k)
  rw [List.take_append_drop] at h
  rw [h]
  have h1 : 1 * In.val10 (l.take k) ≤ 10 ^ (l.drop k).length * In.val10 (l.take k) := Nat.mul_le_mul_right _ (Nat.pow_pos (by decide))
  omega
def loS : ByteArray := ⟨#[45, 57, 50, 50, 51, 51, 55, 50, 48, 51, 54, 56, 53, 52, 55, 55, 53, 56, 48, 56]⟩
def hiS : ByteArray := ⟨#[57, 50, 50, 51, 51, 55, 50, 48, 51, 54, 56, 53, 52, 55, 55, 53, 56, 48, 55]⟩
theorem num_lo : In.num loS = some (-9223372036854775808) := by kernel_rfl
theorem num_hi : In.num hiS = some 9223372036854775807 := by kernel_rfl
theorem cmp_lo {s : ByteArray} {x : Int} (h : In.num s = some x) (W : World) (hs : s.size ≤ maxLen) : Calls Tryz.prog 53 #[.string s, .string ⟨#[45, 57, 50, 50, 51, 51, 55, 50, 48, 51, 54, 56, 53, 52, 55, 55, 53, 56, 48, 56]⟩] W fun e w' => e = .returned (.int .i64 (In.cmpZ x (-9223372036854775808))) ∧ Below W.heap.size W w' := by
  have h1 := rCompare_any s loS W hs (by unfold maxLen; decide)
  rw [In.cmpS_some h num_lo] at h1
  exact h1
theorem cmp_hi {s : ByteArray} {x : Int} (h : In.num s = some x) (W : World) (hs : s.size ≤ maxLen) : Calls Tryz.prog 53 #[.string s, .string ⟨#[57, 50, 50, 51, 51, 55, 50, 48, 51, 54, 56, 53, 52, 55, 55, 53, 56, 48, 55]⟩] W fun e w' => e = .returned (.int .i64 (In.cmpZ x 9223372036854775807)) ∧ Below W.heap.size W w' := by
  have h1 := rCompare_any s hiS W hs (by unfold maxLen; decide)
  rw [In.cmpS_some h num_hi] at h1
  exact h1
set_option maxRecDepth 100000 in
set_option maxHeartbeats 4000000 in
theorem rToInt_any (s : ByteArray) (w : World) (hs : s.size ≤ maxLen) :
    Calls Tryz.prog 37 #[.string s] w fun e w' => e = .returned (.tuple #[.int .i64 (In.toS s).1, .int .i64 (In.toS s).2]) ∧ Below w.heap.size w w' := by
  cases hx : In.num s with
  | none =>
    have V1 := Lib.hid (fun W => valid_none hx W hs)
    rw [In.toS_none hx]
    clear hx hs
    go_enter Tryz.func37, Tryz.ntmps37
    go_wp2_with fail
    with_reducible refine Calls.mono (V1.out _) ?_
    rintro e w' ⟨rfl, rfl⟩
    go_wp2_with fail
    go_ret2
    exact ⟨rfl, Below.refl _ _⟩
  | some x =>
    have V1 := Lib.hid (fun W => valid_some hx W hs)
    have C1 := Lib.hid (fun W => cmp_lo hx W hs)
    have C2 := Lib.hid (fun W => cmp_hi hx W hs)
    rw [In.toS_some hx]
    have BB := Lib.hid (Below.refl w.heap.size w)
    by_cases hlo : x < -9223372036854775808
    · rw [if_neg (by omega)]
      have d1 : decide (In.cmpZ x (-9223372036854775808) < 0) = true := by
        rw [decide_eq_true_eq]
        unfold In.cmpZ
        rw [if_pos hlo]
        decide
      generalize In.cmpZ x (-9223372036854775808) = c1 at *
      clear hx hs hlo C2
      go_enter Tryz.func37, Tryz.ntmps37
      go_wp2_with fail
      with_reducible refine Calls.mono (V1.out _) ?_
      rintro e w' ⟨rfl, rfl⟩
      go_wp2_with fail
      with_reducible refine Calls.mono (C1.out _) ?_
      rintro e w1 ⟨rfl, hb⟩
      replace BB := Lib.hid (Below.andThen BB.out hb)
      clear hb
      go_wp2_with fail
      go_ret2
      exact ⟨rfl, BB.out⟩
    have d1 : decide (In.cmpZ x (-9223372036854775808) < 0) = false := by
      rw [decide_eq_false_iff_not]
      unfold In.cmpZ
      rw [if_neg hlo]
      split <;> decide
    generalize In.cmpZ x (-9223372036854775808) = c1 at *
    by_cases hhi : 9223372036854775807 < x
    · rw [if_neg (by omega)]
      have d2 : decide (0 < In.cmpZ x 9223372036854775807) = true := by
        rw [decide_eq_true_eq]
        unfold In.cmpZ
        rw [if_neg (by omega), if_pos hhi]
        decide
      generalize In.cmpZ x 9223372036854775807 = c2 at *
      clear hx hs hlo hhi
      go_enter Tryz.func37, Tryz.ntmps37
      go_wp2_with fail
      with_reducible refine Calls.mono (V1.out _) ?_
      rintro e w' ⟨rfl, rfl⟩
      go_wp2_with fail
      with_reducible refine Calls.mono (C1.out _) ?_
      rintro e w1 ⟨rfl, hb⟩
      replace BB := Lib.hid (Below.andThen BB.out hb)
      clear hb
      go_wp2_with fail
      with_reducible refine Calls.mono (C2.out _) ?_
      rintro e w2 ⟨rfl, hb⟩
      replace BB := Lib.hid (Below.andThen BB.out hb)
      clear hb
      go_wp2_with fail
      go_ret2
      exact ⟨rfl, BB.out⟩
    rw [if_pos (by omega)]
    have d2 : decide (0 < In.cmpZ x 9223372036854775807) = false := by
      rw [decide_eq_false_iff_not]
      unfold In.cmpZ
      split
      · decide
      · first | decide | (rw [if_neg hhi]; decide)
    generalize In.cmpZ x 9223372036854775807 = c2 at *
    have hl := In.txt_list x
    rw [← (In.num_some hx).1] at hl
    unfold In.txtL Lib.itoa at hl
    unfold maxLen at hs
    have hp : 0 < s.size := by
      have : 0 < s.data.toList.length := by
        rw [hl]
        split
        · simp
        · exact List.length_pos_iff.2 (In.dec_ne _)
      simpa using this
    have i1 := fun (w : World) => run_index_at (P := Tryz.prog) w 9 s .i64 0 rfl hp
    rw [show ((0 : Nat) : Int) = 0 from rfl] at i1
    by_cases hz : x < 0
    · rw [if_pos hz] at hl
      have h45 : (s[0]'hp) = 45 := by
        have h1 := ba_at s 0 hp
        rw [hl] at h1
        exact (Option.some.inj h1).symm
      rw [h45, show ((45 : UInt8).toNat : Int) = 45 from rfl] at i1
      obtain ⟨t, ht⟩ : ∃ t, t = Lib.decDigits x.natAbs := ⟨_, rfl⟩
      rw [← ht] at hl
      have hv : In.val10 t = x.natAbs := by rw [ht, In.dec_val]
      have hdig : ∀ c ∈ t, In.isDig c = true := by rw [ht]; exact In.dec_dig _
      have HT := Lib.hid hl
      have HV := Lib.hid hv
      have HD := Lib.hid hdig
      have hts : t.length + 1 = s.size := by
        have : s.data.toList.length = t.length + 1 := by rw [hl]; rfl
        rw [← this]; simp
      have HTS := Lib.hid hts
      clear hx h45 hl ht hv hdig hts
      go_enter Tryz.func37, Tryz.ntmps37
      go_wp2_with fail
      with_reducible refine Calls.mono (V1.out _) ?_
      rintro e w' ⟨rfl, rfl⟩
      go_wp2_with fail
      with_reducible refine Calls.mono (C1.out _) ?_
      rintro e w1 ⟨rfl, hb⟩
      replace BB := Lib.hid (Below.andThen BB.out hb)
      clear hb
      go_wp2_with fail
      with_reducible refine Calls.mono (C2.out _) ?_
      rintro e w2 ⟨rfl, hb⟩
      replace BB := Lib.hid (Below.andThen BB.out hb)
      clear hb
      go_wp2_with fail
      go_loopw [4, 5] (fun nv iv wr => ∃ (k : Nat) (z : Int), iv = .int .i64 k ∧ nv = .int .i64 z ∧ k ≤ s.size ∧ z = -((In.val10 ((s.data.toList.take k).tail) : Nat) : Int) ∧ wr = w2) (fun _ iv _ => s.size - (intOf iv).toNat)
      case atStart => exact ⟨0, 0, by first | rfl | go_num, by first | rfl | go_num, Nat.zero_le _, by rw [List.take_zero]; rfl, rfl⟩
      case round =>
        obtain ⟨k, z, rfl, rfl, hk, hzv, rfl⟩ := hrel
        by_cases hlt : k < s.size
        · have hc := ba_at s k hlt
          have i2 := fun (w : World) => run_index_at (P := Tryz.prog) w 9 s .i64 k rfl hlt
          rcases Nat.eq_zero_or_pos k with hk0 | hkp
          · subst hk0
            have hz0 : z = 0 := by rw [hzv, List.take_zero]; rfl
            subst hz0
            rw [show ((0 : Nat) : Int) = 0 from rfl]
            clear i2 hc hzv
            go_wp2_with fail
            go_roundw
            case rel => exact ⟨1, 0, by first | rfl | go_num, by first | rfl | go_num, by omega, by rw [HT.out]; rfl, by first | rfl | trivial⟩
            case measure => simp [intOf]; omega
          · obtain ⟨m, hm⟩ : ∃ m, k = m + 1 := ⟨k - 1, by omega⟩
            obtain ⟨cc, hcd⟩ : ∃ cc, cc = s[k]'hlt := ⟨_, rfl⟩
            rw [← hcd] at hc i2
            have hcm : t[m]? = some cc := by
              rw [HT.out, hm, List.getElem?_cons_succ] at hc
              exact hc
            rw [HT.out, hm, List.take_succ_cons, List.tail_cons] at hzv
            have hdig := HD.out _ (List.mem_of_getElem? hcm)
            simp only [In.isDig, Bool.and_eq_true, decide_eq_true_eq] at hdig
            have hn := take_val hcm
            have hle := val10_take_le t (m + 1)
            rw [HV.out, hn] at hle
            have HN := Lib.hid hn
            have HM := Lib.hid hm
            unfold In.dval at HN hle
            generalize In.val10 (t.take m) = acc at *
            generalize cc.toNat = y at *
            have w1 : IntKind.u8.wrap ((y : Int) - 48) = (y : Int) - 48 := by simp [IntKind.wrap, IntKind.bits, IntKind.signed]; omega
            have e1 : decide ((y : Int) = 45) = false := by rw [decide_eq_false_iff_not]; omega
            have e2 : ((y : Int) == 45) = false := by rw [beq_eq_false_iff_ne]; omega
            have HZ := Lib.hid hzv
            have b1 : -9223372036854775808 ≤ 10 * z := by omega
            have b2 : z ≤ 0 := by omega
            have b3 : -9223372036854775808 ≤ 10 * z - ((y : Int) - 48) := by omega
            clear hc hcm hn hzv hle hm hcd
            go_wp2_with fail
            go_roundw
            case rel => exact ⟨k + 1, _, by go_num, rfl, by omega, by (rw [HT.out, List.take_succ_cons, List.tail_cons, HM.out, HN.out, HZ.out]; omega), by first | rfl | trivial⟩
            case measure => simp [intOf]; omega
        · have hzx : z = x := by
            rw [hzv, List.take_of_length_le (by simp; omega), HT.out, List.tail_cons, HV.out]
            omega
          have HZ := Lib.hid hzx
          have d3 : decide ((k : Int) < s.size) = false := by rw [decide_eq_false_iff_not]; omega
          clear hzx hzv
          go_wp2_with fail
          go_ret2
          exact ⟨by rw [HZ.out]; rfl, BB.out⟩
    · rw [if_neg hz] at hl
      have hv : In.val10 s.data.toList = x.toNat := by rw [hl, In.dec_val]
      have hdig : ∀ c ∈ s.data.toList, In.isDig c = true := by rw [hl]; exact In.dec_dig _
      have h46 : ((s[0]'hp).toNat : Int) ≠ 45 := by
        have h1 := hdig _ (List.mem_of_getElem? (ba_at s 0 hp))
        simp only [In.isDig, Bool.and_eq_true, decide_eq_true_eq] at h1
        omega
      generalize (s[0]'hp).toNat = c0 at *
      have f1 : decide ((c0 : Int) = 45) = false := decide_eq_false h46
      have f2 : ((c0 : Int) == 45) = false := by simpa using h46
      have HV := Lib.hid hv
      have HD := Lib.hid hdig
      clear hx hl hv hdig h46
      go_enter Tryz.func37, Tryz.ntmps37
      go_wp2_with fail
      with_reducible refine Calls.mono (V1.out _) ?_
      rintro e w' ⟨rfl, rfl⟩
      go_wp2_with fail
      with_reducible refine Calls.mono (C1.out _) ?_
      rintro e w1 ⟨rfl, hb⟩
      replace BB := Lib.hid (Below.andThen BB.out hb)
      clear hb
      go_wp2_with fail
      with_reducible refine Calls.mono (C2.out _) ?_
      rintro e w2 ⟨rfl, hb⟩
      replace BB := Lib.hid (Below.andThen BB.out hb)
      clear hb
      go_wp2_with fail
      go_loopw [4, 5] (fun nv iv wr => ∃ (k : Nat) (z : Int), iv = .int .i64 k ∧ nv = .int .i64 z ∧ k ≤ s.size ∧ z = ((In.val10 (s.data.toList.take k) : Nat) : Int) ∧ wr = w2) (fun _ iv _ => s.size - (intOf iv).toNat)
      case atStart => exact ⟨0, 0, by first | rfl | go_num, by first | rfl | go_num, Nat.zero_le _, by rw [List.take_zero]; rfl, rfl⟩
      case round =>
        obtain ⟨k, z, rfl, rfl, hk, hzv, rfl⟩ := hrel
        by_cases hlt : k < s.size
        · have hc := ba_at s k hlt
          have i2 := fun (w : World) => run_index_at (P := Tryz.prog) w 9 s .i64 k rfl hlt
          have hdig := HD.out _ (List.mem_of_getElem? hc)
          simp only [In.isDig, Bool.and_eq_true, decide_eq_true_eq] at hdig
          have hn := take_val hc
          have hle := val10_take_le s.data.toList (k + 1)
          rw [HV.out, hn] at hle
          have HN := Lib.hid hn
          unfold In.dval at HN hle
          generalize In.val10 (s.data.toList.take k) = acc at *
          generalize (s[k]'hlt).toNat = y at *
          have w1 : IntKind.u8.wrap ((y : Int) - 48) = (y : Int) - 48 := by simp [IntKind.wrap, IntKind.bits, IntKind.signed]; omega
          have e1 : decide ((y : Int) = 45) = false := by rw [decide_eq_false_iff_not]; omega
          have e2 : ((y : Int) == 45) = false := by rw [beq_eq_false_iff_ne]; omega
          have HZ := Lib.hid hzv
          have b1 : 10 * z ≤ 9223372036854775807 := by omega
          have b2 : 0 ≤ z := by omega
          have b3 : 10 * z + ((y : Int) - 48) ≤ 9223372036854775807 := by omega
          clear hc hn hzv hle
          go_wp2_with fail
          go_roundw
          case rel => exact ⟨k + 1, _, by go_num, rfl, by omega, by (rw [HN.out, HZ.out]; omega), by first | rfl | trivial⟩
          case measure => simp [intOf]; omega
        · have hzx : z = x := by
            rw [hzv, List.take_of_length_le (by simp; omega), HV.out]
            omega
          have HZ := Lib.hid hzx
          have d3 : decide ((k : Int) < s.size) = false := by rw [decide_eq_false_iff_not]; omega
          clear hzx hzv
          go_wp2_with fail
          go_ret2
          exact ⟨by rw [HZ.out]; rfl, BB.out⟩
end Go.Proofs.YtlehjmanlccncaaGreatDoor
