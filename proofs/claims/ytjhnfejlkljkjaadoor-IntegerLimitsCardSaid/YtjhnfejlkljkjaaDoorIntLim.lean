/- For every input, IntegerLimits returns true; the listed tables hold what the program's text lays. -/
import Derived.Test.YtjhnfejlkljkjaaDoorIntOps
namespace Go.Proofs.YtjhnfejlkljkjaaDoor
open Go.RowKit Go.ChangeShapes Go.WideShapes Go.ChangeAt

/-! ### texts of nines -/
theorem val_nines : ∀ n : Nat, In.val10 (List.replicate n 57) + 1 = 10 ^ n
  | 0 => rfl
  | n + 1 => by
    rw [List.replicate_succ, In.val10_cons, List.length_replicate, Nat.pow_succ, show In.dval 57 = 9 from rfl]
    have := val_nines n
    omega
theorem dig_nines (n : Nat) : ∀ c ∈ List.replicate n (57 : UInt8), In.isDig c = true := fun c hc => by
  rw [(List.mem_replicate.1 hc).2]
  decide
theorem dec_nines {n : Nat} (h : 0 < n) : List.replicate n (57 : UInt8) = Lib.decDigits (10 ^ n - 1) := by
  obtain ⟨k, rfl⟩ : ∃ k, n = k + 1 := ⟨n - 1, by omega⟩
  have h1 := In.val_dec k (List.replicate k 57) 57 (by simp) (by rw [← List.replicate_succ]; exact dig_nines _) (.inl (by decide))
  rw [← List.replicate_succ] at h1
  rw [show 10 ^ (k + 1) - 1 = In.val10 (List.replicate (k + 1) 57) by have := val_nines (k + 1); omega]
  exact h1
theorem dec_two (n : Nat) : (49 : UInt8) :: List.replicate n 57 = Lib.decDigits (2 * 10 ^ n - 1) := by
  have h1 := In.val_dec n (List.replicate n 57) 49 (by simp) (fun c hc => by
    rcases List.mem_cons.1 hc with h | h
    · rw [h]; decide
    · exact dig_nines _ c h) (.inl (by decide))
  rw [show 2 * 10 ^ n - 1 = In.val10 (49 :: List.replicate n 57) by
    rw [In.val10_cons, List.length_replicate, show In.dval 49 = 1 from rfl]
    have := val_nines n
    omega]
  exact h1
def nineS (n : Nat) : ByteArray := ⟨(List.replicate n 57).toArray⟩
theorem nineS_size (n : Nat) : (nineS n).size = n := by simp [nineS, ByteArray.size]
theorem txt_nat (u : Nat) : In.txt (u : Int) = ⟨(Lib.decDigits u).toArray⟩ := by
  unfold In.txt Lib.itoa
  rw [if_neg (by omega), Int.toNat_natCast]
theorem txt_minus {u : Nat} (h : 0 < u) : In.txt (-(u : Int)) = ⟨(45 :: Lib.decDigits u).toArray⟩ := by
  unfold In.txt Lib.itoa
  rw [if_pos (by omega), Int.natAbs_neg, Int.natAbs_natCast]
theorem nine_txt {n : Nat} (h : 0 < n) : nineS n = In.txt ((10 ^ n - 1 : Nat) : Int) := by rw [txt_nat, ← dec_nines h]; rfl
theorem two_txt (n : Nat) : (⟨#[49]⟩ : ByteArray) ++ nineS n = In.txt ((2 * 10 ^ n - 1 : Nat) : Int) := by
  rw [txt_nat, ← dec_two]
  apply ba_ext
  rw [ba_append]
  simp [nineS]
theorem least_txt : (⟨#[45]⟩ : ByteArray) ++ nineS 200 = In.txt (-((10 ^ 200 - 1 : Nat) : Int)) := by
  rw [txt_minus (by decide), ← dec_nines (by decide)]
  apply ba_ext
  rw [ba_append]
  simp [nineS]
theorem nine_0 : nineS 0 = ⟨#[]⟩ := rfl
theorem nine_next (n : Nat) : nineS n ++ ⟨#[57]⟩ = nineS (n + 1) := by
  apply ba_ext
  rw [ba_append]
  simp [nineS, List.replicate_succ']
theorem product_len {m n : Nat} : (In.txt ((10 ^ m * (2 * 10 ^ n - 1) : Nat) : Int)).size = m + n + 1 := by
  rw [txt_nat]
  have hp : 0 < 10 ^ (m + n) := Nat.pow_pos (by decide)
  have hm : 0 < 10 ^ m := Nat.pow_pos (by decide)
  have hn : 0 < 10 ^ n := Nat.pow_pos (by decide)
  have e1 : 10 ^ m * (2 * 10 ^ n - 1) + 10 ^ m = 2 * 10 ^ (m + n) := by
    rw [Nat.pow_add, Nat.mul_sub, Nat.mul_one]
    have h3 : 10 ^ m * (2 * 10 ^ n) = 2 * (10 ^ m * 10 ^ n) := by ac_rfl
    have h4 : 10 ^ m * 1 ≤ 10 ^ m * (2 * 10 ^ n) := Nat.mul_le_mul_left _ (by omega)
    omega
  have e2 : 10 ^ m ≤ 10 ^ (m + n) := Nat.pow_le_pow_right (by decide) (by omega)
  have h1 := (In.dec_len_le (u := 10 ^ m * (2 * 10 ^ n - 1)) (k := m + n + 1) (by omega)).2 (by rw [Nat.pow_succ]; omega)
  have h2 : m + n < (Lib.decDigits (10 ^ m * (2 * 10 ^ n - 1))).length := by
    rcases Nat.eq_zero_or_pos (m + n) with h0 | h0
    · rw [h0]
      exact List.length_pos_iff.2 (In.dec_ne _)
    · refine Nat.lt_of_not_le fun h => ?_
      have := (In.dec_len_le h0).1 h
      omega
  show (Lib.decDigits _).toArray.size = _
  rw [List.size_toArray]
  omega
theorem product_fit {m n : Nat} : In.Fit ((10 ^ m * (2 * 10 ^ n - 1) : Nat) : Int) ↔ m + n < 200 := by
  have h := product_len (m := m) (n := n)
  rw [txt_nat, show (ByteArray.size ⟨(Lib.decDigits (10 ^ m * (2 * 10 ^ n - 1))).toArray⟩) = (Lib.decDigits (10 ^ m * (2 * 10 ^ n - 1))).length from List.size_toArray] at h
  have h1 := In.dec_len_le (u := 10 ^ m * (2 * 10 ^ n - 1)) (k := 200) (by decide)
  show Int.natAbs ((10 ^ m * (2 * 10 ^ n - 1) : Nat) : Int) < _ ↔ _
  rw [Int.natAbs_natCast, ← h1, h]
  omega
set_option maxRecDepth 100000 in
set_option maxHeartbeats 1000000 in
theorem nines_any (n : Nat) (w : World) (hn : n ≤ 200) : Calls Tryd.prog 23 #[.int .i64 n] w fun e w' => e = .returned (.string (nineS n)) ∧ Below w.heap.size w w' := by
  go_enter Tryd.func23, Tryd.ntmps23
  go_wp2_with fail
  go_loopw [3, 4] (fun sv iv wr => ∃ i : Nat, iv = .int .i64 i ∧ i ≤ n ∧ sv = .string (nineS i) ∧ Below w.heap.size w wr) (fun _ iv _ => n - (intOf iv).toNat)
  case atStart => exact ⟨0, rfl, by omega, rfl, Below.refl _ _⟩
  case round =>
    obtain ⟨i, rfl, hi, rfl, hB⟩ := hrel
    have HB := Lib.hid hB
    clear hB
    have hz := nineS_size i
    by_cases h : i < n
    · have HN := Lib.hid (nine_next i)
      have HNN := Lib.hid (nineS_size (i + 1))
      generalize nineS i = s at *
      have hs : ¬ (9223372036854775807 < s.size + (⟨#[57]⟩ : ByteArray).size) := by rw [show (⟨#[57]⟩ : ByteArray).size = 1 from rfl]; omega
      have hs2 : ¬ (9223372036854775807 < s.size + 1) := by omega
      have d1 : decide ((i : Int) < n) = true := by simp; omega
      go_wp2_with fail
      go_round
      case rel => exact ⟨i + 1, vint (by omega), by omega, by rw [HN.out], HB.out⟩
      case measure => simp [intOf]; omega
    · obtain rfl : i = n := by omega
      go_wp2_with fail
      go_ret
      exact ⟨rfl, HB.out⟩
def pickZ (c n : Int) : Int := (if c < 0 then -(c + 1) else c) % n
set_option maxHeartbeats 400000 in
theorem pick_any (c n : Int) (w : World) (hn : 0 < n) (hc' : -9223372036854775808 ≤ c) (hc : c ≤ 9223372036854775807) :
    Calls Tryd.prog 24 #[.int .i64 c, .int .i64 n] w fun e w' => e = .returned (.int .i64 (pickZ c n)) ∧ w = w' := by
  by_cases h : c < 0
  · have h0 : 0 ≤ -(c + 1) := by omega
    have e : (-(c + 1)).tmod n = pickZ c n := by rw [Int.tmod_eq_emod_of_nonneg h0]; simp [pickZ, h]
    have E := Lib.hid e
    clear e
    go_enter Tryd.func24, Tryd.ntmps24
    go_wp2
    go_ret
    exact ⟨retv (vint (by rw [← E.out, Int.neg_tmod])), rfl⟩
  · have h0 : 0 ≤ c := by omega
    have e : c % n = pickZ c n := by simp [pickZ, h]
    have E := Lib.hid e
    clear e
    go_enter Tryd.func24, Tryd.ntmps24
    go_wp2
    go_ret
    exact ⟨retv (vint E.out), rfl⟩
theorem pick_nat (c : Int) : ∃ k : Nat, pickZ c 200 = (k : Int) ∧ k < 200 := by
  have h1 := Int.emod_nonneg (if c < 0 then -(c + 1) else c) (show (200 : Int) ≠ 0 by decide)
  have h2 := Int.emod_lt_of_pos (if c < 0 then -(c + 1) else c) (show (0 : Int) < 200 by decide)
  exact ⟨(pickZ c 200).toNat, by unfold pickZ; omega, by unfold pickZ; omega⟩
theorem fit_most : In.Fit (((10 ^ 200 - 1 : Nat) : Int)) := by
  show Int.natAbs ((10 ^ 200 - 1 : Nat) : Int) < _
  rw [Int.natAbs_natCast]
  decide
theorem fit_least : In.Fit (-((10 ^ 200 - 1 : Nat) : Int)) := by
  show Int.natAbs (-((10 ^ 200 - 1 : Nat) : Int)) < _
  rw [Int.natAbs_neg, Int.natAbs_natCast]
  decide
/-- the greatest integer plus a number -/
theorem most_add {x : Int} {A : Nat} (hA : 100000 ≤ A) (hx : x.natAbs < 10 ^ 5) : (((A - 1 : Nat) : Int) + x).natAbs < A ↔ x ≤ 0 := by omega
theorem most_sub {x : Int} {A : Nat} (hA : 100000 ≤ A) (hx : x.natAbs < 10 ^ 5) : (-((A - 1 : Nat) : Int) - x).natAbs < A ↔ x ≤ 0 := by omega
theorem nine_one {m : Nat} (h : 0 < m) : ((10 ^ m - 1 : Nat) : Int) + 1 = ((10 ^ m : Nat) : Int) := by
  have : 0 < 10 ^ m := Nat.pow_pos (by decide)
  omega
theorem ten_fit {m : Nat} (h : m < 200) : In.Fit ((10 ^ m : Nat) : Int) := by
  show Int.natAbs ((10 ^ m : Nat) : Int) < _
  rw [Int.natAbs_natCast]
  exact Nat.pow_lt_pow_right (by decide) h
theorem two_fit {n : Nat} (h : n < 200) : In.Fit ((2 * 10 ^ n - 1 : Nat) : Int) := by
  show Int.natAbs ((2 * 10 ^ n - 1 : Nat) : Int) < _
  rw [Int.natAbs_natCast]
  have := Nat.pow_le_pow_right (show 0 < 10 by decide) (show n + 1 ≤ 200 by omega)
  rw [Nat.pow_succ] at this
  have hp : 0 < 10 ^ n := Nat.pow_pos (by decide)
  generalize 10 ^ 200 = A at *
  omega
/-- 10^m for every m, from nines: the empty text is no number -/
theorem add_bad {s : ByteArray} (h : In.num s = none) (W : World) (T : TabI W) : Calls Tryd.prog 14 #[.string s, .string ⟨#[49]⟩] W fun e w' => e = .returned (.tuple #[.string ⟨#[]⟩, .int .i64 30]) ∧ Below W.heap.size W w' := by
  have h1 := Add_any s ⟨#[49]⟩ W T
  rw [opS_bad (.inl h)] at h1
  exact h1
theorem add_01 (W : World) (T : TabI W) : Calls Tryd.prog 14 #[.string ⟨#[48]⟩, .string ⟨#[49]⟩] W fun e w' => e = .returned (.tuple #[.string (In.txt ((10 ^ 0 : Nat) : Int)), .int .i64 0]) ∧ Below W.heap.size W w' := by
  have h := Add_any ⟨#[48]⟩ ⟨#[49]⟩ W T
  rw [In.opS_some num_0 num_1] at h
  have e : In.fit ((fun x y => x + y) 0 1) = (In.txt ((10 ^ 0 : Nat) : Int), 0) := by
    show In.fit (0 + 1) = _
    exact In.fit_pos (by decide)
  rw [e] at h
  exact h
theorem valid_more : In.validL (nineS 201).data.toList = false := by
  rw [nine_txt (by decide), In.txt_list, In.valid_txt, decide_eq_false_iff_not, Int.natAbs_natCast]
  decide
theorem Valid_more (W : World) : Calls Tryd.prog 19 #[.string (nineS 201)] W fun e w' => e = .returned (.bool false) ∧ W = w' := by
  have h := valid_any (nineS 201) W
  rw [valid_more] at h
  exact h
set_option maxRecDepth 100000 in
set_option maxHeartbeats 8000000 in
theorem integerLimits_law (a : ByteArray) (m0 n0 : Int) (w : World) (T : TabI w) (ha : a.size ≤ maxLen) (hm : -9223372036854775808 ≤ m0 ∧ m0 ≤ 9223372036854775807) (hn : -9223372036854775808 ≤ n0 ∧ n0 ≤ 9223372036854775807) :
    Calls Tryd.prog 10 #[.string a, .int .i64 m0, .int .i64 n0] w fun r w' => r = .returned (.bool true) ∧ Below w.heap.size w w' := by
  have HT := Lib.hid T
  have BB := Lib.hid (Below.refl w.heap.size w)
  have bx := madeZ_lt a 5
  have M1 := Lib.hid (fun W => Made_any a 5 W (by decide) ha)
  have HS := Lib.hid sane_any
  generalize madeZ a 5 = x at *
  have fx := In.fit_of bx (by decide)
  obtain ⟨m, em, hm2⟩ := pick_nat m0
  obtain ⟨n, en, hn2⟩ := pick_nat n0
  have KM := Lib.hid (fun W => pick_any m0 200 W (by decide) hm.1 hm.2)
  have KN := Lib.hid (fun W => pick_any n0 200 W (by decide) hn.1 hn.2)
  rw [em] at KM
  rw [en] at KN
  have N0 := Lib.hid (fun W => nines_any 200 W (by decide))
  have N1 := Lib.hid (fun W => nines_any m W (by omega))
  have N2 := Lib.hid (fun W => nines_any n W (by omega))
  have z0 := nineS_size 200
  have z1 := nineS_size n
  have VL := Lib.hid (Valid_t (-((10 ^ 200 - 1 : Nat) : Int)))
  rw [decide_eq_true fit_least] at VL
  have VM := Lib.hid Valid_more
  have PM := Lib.hid (Mul_t (ten_fit hm2) (two_fit hn2))
  have PN := Lib.hid (Mul_no (ten_fit hm2) (two_fit hn2))
  rw [← Int.natCast_mul] at PM PN
  have hpl := product_len (m := m) (n := n)
  have C0 := Lib.hid (Cmp_0 fx)
  have A1 := Lib.hid (Add_t fit_most fx)
  have A2 := Lib.hid (Add_no fit_most fx)
  have S1 := Lib.hid (Sub_t fit_least fx)
  have S2 := Lib.hid (Sub_no fit_least fx)
  have p5 : (100000 : Nat) ≤ 10 ^ 200 := Nat.pow_le_pow_right (n := 10) (by decide) (show 5 ≤ 200 by decide)
  have hA1 : In.Fit (((10 ^ 200 - 1 : Nat) : Int) + x) ↔ x ≤ 0 := most_add p5 bx
  have hS1 : In.Fit (-((10 ^ 200 - 1 : Nat) : Int) - x) ↔ x ≤ 0 := most_sub p5 bx
  have hpf := product_fit (m := m) (n := n)
  rw [← nine_txt (n := 200) (by decide)] at A1 A2
  rw [← least_txt] at S1 S2 VL
  rw [← nine_next 200] at VM
  rw [← two_txt n] at PM PN
  obtain ⟨P, hP⟩ : ∃ P, P = In.txt ((10 ^ m * (2 * 10 ^ n - 1) : Nat) : Int) := ⟨_, rfl⟩
  rw [← hP] at PM hpl
  have hplI : (P.size : Int) = (m : Int) + n + 1 := by rw [hpl]; omega
  have HPL := Lib.hid hplI
  -- ten to the m
  have hone : (m = 0 ∧ nineS m = ⟨#[]⟩ ∧ In.num (nineS m) = none) ∨ (0 < m ∧ nineS m = In.txt ((10 ^ m - 1 : Nat) : Int)) := by
    rcases Nat.eq_zero_or_pos m with h | h
    · subst h
      exact .inl ⟨rfl, rfl, by kernel_rfl⟩
    · exact .inr ⟨h, nine_txt h⟩
  obtain ⟨one, hone2⟩ : ∃ s, s = In.txt ((10 ^ m : Nat) : Int) := ⟨_, rfl⟩
  rw [← hone2] at PM PN
  have K1 := Lib.hid (show (m = 0 ∧ (∀ (W : World) (T : TabI W), Calls Tryd.prog 14 #[.string (nineS m), .string ⟨#[49]⟩] W fun e w' => e = .returned (.tuple #[.string ⟨#[]⟩, .int .i64 30]) ∧ Below W.heap.size W w') ∧ (∀ (W : World) (T : TabI W), Calls Tryd.prog 14 #[.string ⟨#[48]⟩, .string ⟨#[49]⟩] W fun e w' => e = .returned (.tuple #[.string one, .int .i64 0]) ∧ Below W.heap.size W w')) ∨ (0 < m ∧ (∀ (W : World) (T : TabI W), Calls Tryd.prog 14 #[.string (nineS m), .string ⟨#[49]⟩] W fun e w' => e = .returned (.tuple #[.string one, .int .i64 0]) ∧ Below W.heap.size W w')) from by
    rcases hone with ⟨h, _, h2⟩ | ⟨h, h2⟩
    · refine .inl ⟨h, fun W T => add_bad h2 W T, fun W T => ?_⟩
      subst h
      rw [hone2]
      exact add_01 W T
    · refine .inr ⟨h, fun W T => ?_⟩
      rw [h2, hone2, ← nine_one h]
      refine Add_1 ?_ ?_ W T
      · have := ten_fit (m := m) hm2
        rw [← nine_one h] at this
        show Int.natAbs _ < _
        omega
      · rw [nine_one h]
        exact ten_fit hm2)
  have K2 := Lib.hid (show (m + n < 200 ∧ (∀ (W : World) (T : TabI W), Calls Tryd.prog 16 #[.string one, .string (⟨#[49]⟩ ++ nineS n)] W fun e w' => e = .returned (.tuple #[.string P, .int .i64 0]) ∧ Below W.heap.size W w')) ∨ (200 ≤ m + n ∧ (∀ (W : World) (T : TabI W), Calls Tryd.prog 16 #[.string one, .string (⟨#[49]⟩ ++ nineS n)] W fun e w' => e = .returned (.tuple #[.string ⟨#[]⟩, .int .i64 30]) ∧ Below W.heap.size W w')) from by
    rcases Nat.lt_or_ge (m + n) 200 with h | h
    · exact .inl ⟨h, fun W T => PM.out (hpf.2 h) W T⟩
    · exact .inr ⟨h, fun W T => PN.out (fun h2 => by have := hpf.1 h2; omega) W T⟩)
  have K3 : (0 < x ∧ In.cmpZ x 0 = 1) ∨ (x ≤ 0 ∧ In.cmpZ x 0 ≤ 0) := by
    unfold In.cmpZ
    rcases Int.lt_or_le 0 x with h | h
    · exact .inl ⟨h, by rw [if_neg (by omega), if_pos h]⟩
    · refine .inr ⟨h, ?_⟩
      split
      · decide
      · rw [if_neg (by omega)]; decide
  clear PM PN hpl hplI hpf hone hone2 hP fx bx p5 T em en hm hn ha
  rcases K3 with ⟨hx, hc⟩ | ⟨hx, hc⟩
  · have A := Lib.hid (A2.out (fun h => by have := hA1.1 h; omega))
    have S := Lib.hid (S2.out (fun h => by have := hS1.1 h; omega))
    rw [hc] at C0
    clear A1 A2 S1 S2 hA1 hS1 hx hc
    generalize nineS 200 = most at *
    generalize In.txt x = tx at *
    generalize nineS n = ns at *
    generalize nineS m = ms at *
    go_enter Tryd.func10, Tryd.ntmps10
    go_wp2_with fail
    with_reducible refine Calls.mono (HS.out _ HT.out) ?_
    rintro e w1 ⟨rfl, hb⟩
    replace HT := Lib.hid (HT.out.next hb)
    replace BB := Lib.hid (Below.andThen BB.out hb)
    clear hb
    go_wp2_with fail
    with_reducible refine Calls.mono (M1.out _) ?_
    rintro e w2 ⟨rfl, hb⟩
    replace HT := Lib.hid (HT.out.next hb)
    replace BB := Lib.hid (Below.andThen BB.out hb)
    clear hb
    go_wp2_with fail
    with_reducible refine Calls.mono (N0.out _) ?_
    rintro e w3 ⟨rfl, hb⟩
    replace HT := Lib.hid (HT.out.next hb)
    replace BB := Lib.hid (Below.andThen BB.out hb)
    clear hb
    go_wp2_with fail
    with_reducible refine Calls.mono (A.out _ HT.out) ?_
    rintro e w4 ⟨rfl, hb⟩
    replace HT := Lib.hid (HT.out.next hb)
    replace BB := Lib.hid (Below.andThen BB.out hb)
    clear hb
    go_wp2_with fail
    with_reducible refine Calls.mono (S.out _ HT.out) ?_
    rintro e w5 ⟨rfl, hb⟩
    replace HT := Lib.hid (HT.out.next hb)
    replace BB := Lib.hid (Below.andThen BB.out hb)
    clear hb
    go_wp2_with fail
    with_reducible refine Calls.mono (KM.out _) ?_
    rintro e w' ⟨rfl, rfl⟩
    go_wp2_with fail
    with_reducible refine Calls.mono (KN.out _) ?_
    rintro e w' ⟨rfl, rfl⟩
    go_wp2_with fail
    with_reducible refine Calls.mono (N1.out _) ?_
    rintro e w6 ⟨rfl, hb⟩
    replace HT := Lib.hid (HT.out.next hb)
    replace BB := Lib.hid (Below.andThen BB.out hb)
    clear hb
    go_wp2_with fail
    rcases K1.out with ⟨rfl, k1, k2⟩ | ⟨hmp, k1⟩
    · have J1 := Lib.hid k1
      have J2 := Lib.hid k2
      clear k1 k2 K1
      with_reducible refine Calls.mono (J1.out _ HT.out) ?_
      rintro e w7 ⟨rfl, hb⟩
      replace HT := Lib.hid (HT.out.next hb)
      replace BB := Lib.hid (Below.andThen BB.out hb)
      clear hb
      go_wp2_with fail
      with_reducible refine Calls.mono (J2.out _ HT.out) ?_
      rintro e w8 ⟨rfl, hb⟩
      replace HT := Lib.hid (HT.out.next hb)
      replace BB := Lib.hid (Below.andThen BB.out hb)
      clear hb
      go_wp2_with fail
      with_reducible refine Calls.mono (N2.out _) ?_
      rintro e w9 ⟨rfl, hb⟩
      replace HT := Lib.hid (HT.out.next hb)
      replace BB := Lib.hid (Below.andThen BB.out hb)
      clear hb
      go_wp2_with fail
      have K9 := Lib.hid (show (decide ((n : Int) < 200) = true ∧ _) ∨ (decide ((n : Int) < 200) = false ∧ _) from K2.out.imp (fun h => ⟨by rw [decide_eq_true_eq]; omega, h.2⟩) (fun h => ⟨by rw [decide_eq_false_iff_not]; omega, h.2⟩))
      rcases K9.out with ⟨hs, k1⟩ | ⟨hs, k1⟩
      all_goals
        have J3 := Lib.hid k1
        clear k1 K2 K9
        with_reducible refine Calls.mono (J3.out _ HT.out) ?_
        rintro e w10 ⟨rfl, hb⟩
        replace HT := Lib.hid (HT.out.next hb)
        replace BB := Lib.hid (Below.andThen BB.out hb)
        clear hb
        go_wp2_with fail
        have hplI := HPL.out
        with_reducible refine Calls.mono (C0.out _) ?_
        rintro e w11 ⟨rfl, hb⟩
        replace HT := Lib.hid (HT.out.next hb)
        replace BB := Lib.hid (Below.andThen BB.out hb)
        clear hb
        go_wp2_with fail
        with_reducible refine Calls.mono (VM.out _) ?_
        rintro e w' ⟨rfl, rfl⟩
        go_wp2_with fail
        with_reducible refine Calls.mono (VL.out _) ?_
        rintro e w' ⟨rfl, rfl⟩
        go_wp2_with fail
        go_ret
        exact ⟨rfl, BB.out⟩
    · have J1 := Lib.hid k1
      clear k1 K1
      with_reducible refine Calls.mono (J1.out _ HT.out) ?_
      rintro e w7 ⟨rfl, hb⟩
      replace HT := Lib.hid (HT.out.next hb)
      replace BB := Lib.hid (Below.andThen BB.out hb)
      clear hb
      go_wp2_with fail
      with_reducible refine Calls.mono (N2.out _) ?_
      rintro e w9 ⟨rfl, hb⟩
      replace HT := Lib.hid (HT.out.next hb)
      replace BB := Lib.hid (Below.andThen BB.out hb)
      clear hb
      go_wp2_with fail
      have K9 := Lib.hid (show (decide ((m : Int) + n < 200) = true ∧ _) ∨ (decide ((m : Int) + n < 200) = false ∧ _) from K2.out.imp (fun h => ⟨by rw [decide_eq_true_eq]; omega, h.2⟩) (fun h => ⟨by rw [decide_eq_false_iff_not]; omega, h.2⟩))
      rcases K9.out with ⟨hs, k1⟩ | ⟨hs, k1⟩
      all_goals
        have J3 := Lib.hid k1
        clear k1 K2 K9
        with_reducible refine Calls.mono (J3.out _ HT.out) ?_
        rintro e w10 ⟨rfl, hb⟩
        replace HT := Lib.hid (HT.out.next hb)
        replace BB := Lib.hid (Below.andThen BB.out hb)
        clear hb
        go_wp2_with fail
        have hplI := HPL.out
        with_reducible refine Calls.mono (C0.out _) ?_
        rintro e w11 ⟨rfl, hb⟩
        replace HT := Lib.hid (HT.out.next hb)
        replace BB := Lib.hid (Below.andThen BB.out hb)
        clear hb
        go_wp2_with fail
        with_reducible refine Calls.mono (VM.out _) ?_
        rintro e w' ⟨rfl, rfl⟩
        go_wp2_with fail
        with_reducible refine Calls.mono (VL.out _) ?_
        rintro e w' ⟨rfl, rfl⟩
        go_wp2_with fail
        go_ret
        exact ⟨rfl, BB.out⟩
  · have A := Lib.hid (A1.out (hA1.2 hx))
    have S := Lib.hid (S1.out (hS1.2 hx))
    have hd0 : decide (0 < In.cmpZ x 0) = false := by rw [decide_eq_false_iff_not]; omega
    clear A1 A2 S1 S2 hA1 hS1 hx
    generalize In.cmpZ x 0 = c0 at *
    generalize In.txt (((10 ^ 200 - 1 : Nat) : Int) + x) = t1 at *
    generalize In.txt (-((10 ^ 200 - 1 : Nat) : Int) - x) = t2 at *
    generalize nineS 200 = most at *
    generalize In.txt x = tx at *
    generalize nineS n = ns at *
    generalize nineS m = ms at *
    go_enter Tryd.func10, Tryd.ntmps10
    go_wp2_with fail
    with_reducible refine Calls.mono (HS.out _ HT.out) ?_
    rintro e w1 ⟨rfl, hb⟩
    replace HT := Lib.hid (HT.out.next hb)
    replace BB := Lib.hid (Below.andThen BB.out hb)
    clear hb
    go_wp2_with fail
    with_reducible refine Calls.mono (M1.out _) ?_
    rintro e w2 ⟨rfl, hb⟩
    replace HT := Lib.hid (HT.out.next hb)
    replace BB := Lib.hid (Below.andThen BB.out hb)
    clear hb
    go_wp2_with fail
    with_reducible refine Calls.mono (N0.out _) ?_
    rintro e w3 ⟨rfl, hb⟩
    replace HT := Lib.hid (HT.out.next hb)
    replace BB := Lib.hid (Below.andThen BB.out hb)
    clear hb
    go_wp2_with fail
    with_reducible refine Calls.mono (A.out _ HT.out) ?_
    rintro e w4 ⟨rfl, hb⟩
    replace HT := Lib.hid (HT.out.next hb)
    replace BB := Lib.hid (Below.andThen BB.out hb)
    clear hb
    go_wp2_with fail
    with_reducible refine Calls.mono (S.out _ HT.out) ?_
    rintro e w5 ⟨rfl, hb⟩
    replace HT := Lib.hid (HT.out.next hb)
    replace BB := Lib.hid (Below.andThen BB.out hb)
    clear hb
    go_wp2_with fail
    with_reducible refine Calls.mono (KM.out _) ?_
    rintro e w' ⟨rfl, rfl⟩
    go_wp2_with fail
    with_reducible refine Calls.mono (KN.out _) ?_
    rintro e w' ⟨rfl, rfl⟩
    go_wp2_with fail
    with_reducible refine Calls.mono (N1.out _) ?_
    rintro e w6 ⟨rfl, hb⟩
    replace HT := Lib.hid (HT.out.next hb)
    replace BB := Lib.hid (Below.andThen BB.out hb)
    clear hb
    go_wp2_with fail
    rcases K1.out with ⟨rfl, k1, k2⟩ | ⟨hmp, k1⟩
    · have J1 := Lib.hid k1
      have J2 := Lib.hid k2
      clear k1 k2 K1
      with_reducible refine Calls.mono (J1.out _ HT.out) ?_
      rintro e w7 ⟨rfl, hb⟩
      replace HT := Lib.hid (HT.out.next hb)
      replace BB := Lib.hid (Below.andThen BB.out hb)
      clear hb
      go_wp2_with fail
      with_reducible refine Calls.mono (J2.out _ HT.out) ?_
      rintro e w8 ⟨rfl, hb⟩
      replace HT := Lib.hid (HT.out.next hb)
      replace BB := Lib.hid (Below.andThen BB.out hb)
      clear hb
      go_wp2_with fail
      with_reducible refine Calls.mono (N2.out _) ?_
      rintro e w9 ⟨rfl, hb⟩
      replace HT := Lib.hid (HT.out.next hb)
      replace BB := Lib.hid (Below.andThen BB.out hb)
      clear hb
      go_wp2_with fail
      have K9 := Lib.hid (show (decide ((n : Int) < 200) = true ∧ _) ∨ (decide ((n : Int) < 200) = false ∧ _) from K2.out.imp (fun h => ⟨by rw [decide_eq_true_eq]; omega, h.2⟩) (fun h => ⟨by rw [decide_eq_false_iff_not]; omega, h.2⟩))
      rcases K9.out with ⟨hs, k1⟩ | ⟨hs, k1⟩
      all_goals
        have J3 := Lib.hid k1
        clear k1 K2 K9
        with_reducible refine Calls.mono (J3.out _ HT.out) ?_
        rintro e w10 ⟨rfl, hb⟩
        replace HT := Lib.hid (HT.out.next hb)
        replace BB := Lib.hid (Below.andThen BB.out hb)
        clear hb
        go_wp2_with fail
        have hplI := HPL.out
        with_reducible refine Calls.mono (C0.out _) ?_
        rintro e w11 ⟨rfl, hb⟩
        replace HT := Lib.hid (HT.out.next hb)
        replace BB := Lib.hid (Below.andThen BB.out hb)
        clear hb
        go_wp2_with fail
        with_reducible refine Calls.mono (VM.out _) ?_
        rintro e w' ⟨rfl, rfl⟩
        go_wp2_with fail
        with_reducible refine Calls.mono (VL.out _) ?_
        rintro e w' ⟨rfl, rfl⟩
        go_wp2_with fail
        go_ret
        exact ⟨rfl, BB.out⟩
    · have J1 := Lib.hid k1
      clear k1 K1
      with_reducible refine Calls.mono (J1.out _ HT.out) ?_
      rintro e w7 ⟨rfl, hb⟩
      replace HT := Lib.hid (HT.out.next hb)
      replace BB := Lib.hid (Below.andThen BB.out hb)
      clear hb
      go_wp2_with fail
      with_reducible refine Calls.mono (N2.out _) ?_
      rintro e w9 ⟨rfl, hb⟩
      replace HT := Lib.hid (HT.out.next hb)
      replace BB := Lib.hid (Below.andThen BB.out hb)
      clear hb
      go_wp2_with fail
      have K9 := Lib.hid (show (decide ((m : Int) + n < 200) = true ∧ _) ∨ (decide ((m : Int) + n < 200) = false ∧ _) from K2.out.imp (fun h => ⟨by rw [decide_eq_true_eq]; omega, h.2⟩) (fun h => ⟨by rw [decide_eq_false_iff_not]; omega, h.2⟩))
      rcases K9.out with ⟨hs, k1⟩ | ⟨hs, k1⟩
      all_goals
        have J3 := Lib.hid k1
        clear k1 K2 K9
        with_reducible refine Calls.mono (J3.out _ HT.out) ?_
        rintro e w10 ⟨rfl, hb⟩
        replace HT := Lib.hid (HT.out.next hb)
        replace BB := Lib.hid (Below.andThen BB.out hb)
        clear hb
        go_wp2_with fail
        have hplI := HPL.out
        with_reducible refine Calls.mono (C0.out _) ?_
        rintro e w11 ⟨rfl, hb⟩
        replace HT := Lib.hid (HT.out.next hb)
        replace BB := Lib.hid (Below.andThen BB.out hb)
        clear hb
        go_wp2_with fail
        with_reducible refine Calls.mono (VM.out _) ?_
        rintro e w' ⟨rfl, rfl⟩
        go_wp2_with fail
        with_reducible refine Calls.mono (VL.out _) ?_
        rintro e w' ⟨rfl, rfl⟩
        go_wp2_with fail
        go_ret
        exact ⟨rfl, BB.out⟩
namespace integerLimits
set_option maxRecDepth 100000 in
theorem contract (H : Type) (enc : TypeId × Value → H) (W : World) (base : Nat) (args : Array Value) (ds gs : List (DataW H)) (before : List MemPlace)
    (hval : ∀ (j : Nat) t v, Tryd.f10.params[j]? = some t → args[j]? = some v → Value.okWide Tryd.prog W .any base t v)
    (hW : DataW.Whole enc Tryd.prog Tryd.f10.params.toList Rows.integerLimitsSpec.vars false W args.toList ds gs before) (hL : laidMetH Tryd.prog Rows.integerLimitsRow.laid W) :
    Calls Tryd.prog 10 args W fun e W' => ∃ v, e = .returned v ∧ Rows.integerLimitsSpec.post enc Tryd.prog Tryd.f10 false true false false W args v W' := by
  have hW' := hW
  obtain ⟨p, q, hA0, hV, rfl, hfz, hnd⟩ := hW
  have hA : DataW.TrodAll enc Tryd.prog W 0 (fun _ => true) true Tryd.f10.params.toList args.toList ds p := hA0
  rw [Tryd.params10] at hA hval
  obtain ⟨v0, vs0, d0, ds0, p0, q0, hargs, rfl, rfl, h0, r0⟩ := trodAll_cons hA
  obtain ⟨v1, vs1, d1, ds1, p1, q1, rfl, rfl, rfl, h1, r1⟩ := trodAll_cons r0
  obtain ⟨v2, vs2, d2, ds2, p2, q2, rfl, rfl, rfl, h2, r2⟩ := trodAll_cons r1
  obtain ⟨rfl, rfl, rfl⟩ := trodAll_nil r2
  obtain rfl : args = #[v0, v1, v2] := by cases args; simp_all
  obtain ⟨a0, rfl, rfl, rfl, k0⟩ := Go.ChangeMaps.open_string Tryd.underlying9 (hval 0 _ _ rfl rfl) h0
  obtain ⟨a1, rfl, rfl, rfl, k1⟩ := open_int Tryd.underlying3 (hval 1 _ _ rfl rfl) h1
  obtain ⟨a2, rfl, rfl, rfl, k2⟩ := open_int Tryd.underlying3 (hval 2 _ _ rfl rfl) h2
  refine (integerLimits_law a0 a1 a2 W (tabI hL) k0 (bd_i64 k1) (bd_i64 k2)).mono fun e W' ⟨he, hb⟩ => ?_
  subst he
  obtain ⟨rfl, _⟩ := trodVars_none hV
  exact ⟨_, rfl, law_post laidOut (by kernel_rfl) rfl (by kernel_rfl) Tryd.underlying4 hW' rfl hb⟩

noncomputable def laidWorld (os : Os) : World := World.laidAll Tryd.prog os Rows.integerLimitsRow.laid
def args0 : Array Value := #[.string ⟨#[]⟩, .int .i64 0, .int .i64 0]
theorem laid_met (os : Os) : laidMet Tryd.prog Rows.integerLimitsRow.laid ((laidWorld os).forCall (fun _ _ => 0) ⟨#[], args0, []⟩).memory :=
  laidMet_laidAll _ (by kernel_rfl) (by kernel_rfl)
theorem reads (os : Os) {H : Type} (enc : TypeId × Value → H) : ∃ places, DataW.whole enc Tryd.prog ((laidWorld os).forCall (fun _ _ => 0) ⟨#[], args0, []⟩).memory Tryd.f10.params.toList Rows.integerLimitsSpec.vars false args0.toList 8 = some ([.lit (.string []), .lit (.int .i64 0), .lit (.int .i64 0)], [], places) :=
  ⟨[], by kernel_rfl⟩

set_option maxRecDepth 100000 in
theorem lifted (os : Os) (started : os.Started) (H : Type) (enc : TypeId × Value → H) (F : Stop.Interp) :
    ReturnsInHanded {} Tryd.checked os 10 .any ((OpenSpec.ofChange Rows.integerLimitsSpec).preRow enc Tryd.prog Tryd.f10 Rows.integerLimitsRow.domain false Rows.integerLimitsRow.laid) (((OpenSpec.ofChange Rows.integerLimitsSpec).at F).post enc Tryd.prog Tryd.f10 false true false false) := by
  obtain ⟨places, hx⟩ := reads os enc
  refine returnsInHanded_of_row (C := Tryd.checked) (s := OpenSpec.ofChange Rows.integerLimitsSpec) own started (by kernel_rfl) Tryd.func10
    (witness_row_at (enc := enc) (C := Tryd.checked) false (laidWorld os) args0 (World.laidAll_os _ _ _) (by kernel_rfl) (by kernel_rfl) (by kernel_rfl)
      (OpenSpec.preRow_of_cond 8 hx (by kernel_rfl) (fun k hk => by cases hk) (by kernel_rfl) (laid_met os))) ?_
  intro W base args ds gs before hval hW _ _ _ hL _ _
  exact contract H enc W base args ds gs before hval hW hL

theorem said : Rows.IntegerLimitsSaid :=
  OpenClaim.holds_of_cond 10 Tryd.f10 rfl rfl rfl rfl rfl rfl rfl ⟨rfl, rfl, rfl, rfl, rfl⟩ rfl rfl rfl rfl rfl (by kernel_rfl) Tryd.func10 (by kernel_rfl)
    (of_decide_eq_true (by kernel_rfl)) (by unfold Func.isWrapper; first | (rw [if_pos (by decide +kernel)]; kernel_rfl) | (rw [if_neg (by decide +kernel)]; exact ⟨rfl, rfl⟩))
    (fun os started H enc _ F => by rw [OpenClaim.pre_eq_preRow]; exact lifted os started H enc F)

theorem plain (f : FuncId) (fn : Func) (hf : Tryd.pinned.checked.prog.funcNamed "newswire/newswirelaw03.IntegerLimits" = some f) (hfn : Tryd.pinned.checked.prog.funcs[f]? = some fn) :
    true = Tryd.pinned.checked.prog.looks [] ∧ ∀ (j : Nat) t, fn.params[j]? = some t → Tryd.pinned.checked.prog.wantsStandIn t = false := by
  obtain rfl : f = 10 := Option.some.inj ((show Tryd.prog.funcNamed "newswire/newswirelaw03.IntegerLimits" = some 10 by kernel_rfl).symm.trans hf) |>.symm
  obtain rfl : fn = Tryd.f10 := (Option.some.inj (Tryd.func10.symm.trans hfn)).symm
  refine ⟨by kernel_rfl, fun j t ht => ?_⟩
  have all : (Tryd.f10.params.toList.all fun t => Tryd.prog.wantsStandIn t == false) = true := by kernel_rfl
  have := List.all_eq_true.1 all t (by rw [← Array.mem_def]; exact Array.mem_of_getElem? ht)
  exact (show Tryd.prog.wantsStandIn t = false by simpa using this)

/-- The statement. -/
theorem card : Rows.IntegerLimitsCardSaid :=
  Claim7.holds_tied_plain_at .later [] _ _ _ _ said (fun _ h => by cases h) (by kernel_rfl) (fun _ h => by cases h) integerLimits_row_tie rfl ⟨rfl, rfl⟩ (by kernel_rfl) rfl plain (by kernel_rfl)
end integerLimits
end Go.Proofs.YtjhnfejlkljkjaaDoor
