/- The reference: power, grid, Down, Up. -/
import Derived.Test.YtlehjmanlccncaaGreatDoorRatRE
import Derived.Test.YtlehjmanlccncaaGreatDoorRatTen
set_option linter.unusedVariables false
set_option linter.unusedSimpArgs false
namespace Go.Proofs.YtlehjmanlccncaaGreatDoor
open Go.RowKit

set_option maxRecDepth 100000 in
set_option maxHeartbeats 1000000 in
theorem power_r (k : Nat) (w : World) (hk : k ≤ 30) : Calls Tryz.prog 87 #[.int .i64 k] w fun e w' => e = .returned (.string (tenS k)) ∧ w = w' := by
  go_enter Tryz.func87, Tryz.ntmps87
  go_wp2_with fail
  go_loopw [3, 4] (fun sv iv wr => ∃ i : Nat, iv = .int .i64 i ∧ i ≤ k ∧ sv = .string (tenS i) ∧ w = wr) (fun _ iv _ => k - (intOf iv).toNat)
  case atStart => refine ⟨0, ?_, ?_, ?_, ?_⟩ <;> first | trivial | rfl | omega
  case round =>
    obtain ⟨i, rfl, hi, rfl, rfl⟩ := hrel
    have hz := tenS_size i
    by_cases h : i < k
    · have HN := Lib.hid (tenS_next i)
      have HNN := Lib.hid (tenS_size (i + 1))
      generalize tenS i = s at *
      have hs : ¬ (9223372036854775807 < s.size + (⟨#[48]⟩ : ByteArray).size) := by rw [show (⟨#[48]⟩ : ByteArray).size = 1 from rfl]; omega
      have hs2 : ¬ (9223372036854775807 < s.size + 1) := by omega
      have d1 : decide ((i : Int) < k) = true := by simp; omega
      go_wp2_with fail
      go_round
      case rel => exact ⟨i + 1, vint (by omega), by omega, by rw [HN.out], by first | trivial | rfl⟩
      case measure => simp [intOf]; omega
    · obtain rfl : i = k := by omega
      go_wp2_with fail
      go_ret
      exact ⟨rfl, rfl⟩
/-- what grid finds -/
def GridIs (r : ByteArray × ByteArray) (K : Int) (q rest t : ByteArray) (ok : Bool) : Prop :=
  (ok = false ∧ ∀ up, Ra.roundO up (Ra.val r) K = none) ∨
  (ok = true ∧ ∃ (p : Int × Int) (k : Nat), Ra.val r = some p ∧ Ra.Ok p ∧ K = k ∧ k ≤ 30 ∧ In.Fit (p.1 * 10 ^ k) ∧ q = In.txt (p.1 * 10 ^ k / p.2) ∧ rest = In.txt (p.1 * 10 ^ k % p.2) ∧ t = In.txt (10 ^ k))
theorem round_at {p : Int × Int} {k : Nat} (hk : k ≤ 30) (up : Bool) : Ra.roundO up (some p) (k : Int) = Ra.roundP up p k := by
  unfold Ra.roundO
  dsimp only
  rw [if_pos ⟨by omega, by omega⟩, Int.toNat_natCast]
set_option maxRecDepth 100000 in
set_option maxHeartbeats 8000000 in
theorem rgrid_r (a : ByteArray × ByteArray) (K : Int) (ha1 : a.1.size ≤ maxLen) (ha2 : a.2.size ≤ maxLen) : ∃ (q rest t : ByteArray) (ok : Bool), GridIs a K q rest t ok ∧
    ∀ w, Calls Tryz.prog 56 #[ratV a, .int .i64 K] w fun e w' => e = .returned (.tuple #[.string q, .string rest, .string t, .bool ok]) ∧ Below w.heap.size w w' := by
  obtain ⟨V1, c1, k1⟩ := val_key a ha1 ha2
  obtain ⟨a1, a2⟩ := a
  have CV1 := Lib.hid c1
  clear c1 ha1 ha2
  have bad : (V1 = false) ∨ (V1 = true ∧ K < 0) ∨ (V1 = true ∧ ¬ K < 0 ∧ 30 < K) → ∀ w, Calls Tryz.prog 56 #[ratV (a1, a2), .int .i64 K] w fun e w' => e = .returned (.tuple #[.string ⟨#[]⟩, .string ⟨#[]⟩, .string ⟨#[]⟩, .bool false]) ∧ Below w.heap.size w w' := by
    intro h w
    clear k1
    have BB := Lib.hid (Below.refl w.heap.size w)
    rcases h with rfl | ⟨rfl, h⟩ | ⟨rfl, h, h'⟩
    · go_enter Tryz.func56, Tryz.ntmps56
      go_upto_region 1 with (fail)
      refine wp_named fun w1 hq => ?_
      obtain ⟨bA, ebA⟩ : ∃ b, b = w.heap.size := ⟨_, rfl⟩
      have A := Lib.hid (show Row w1 bA 23 [.string a1, .string a2] from by rw [hq, ebA]; exact Row.new _ _ _)
      have hb : Below w.heap.size w w1 := by rw [hq]; exact (Below.refl _ _).alloc (Nat.le_refl _) _
      replace BB := Lib.hid (Below.andThen BB.out hb)
      rw [← ebA]
      clear hq hb ebA
      obtain ⟨cA0, cA1⟩ := A.out.two
      have lA := A.out.lt
      go_wp2_with fail
      clear cA0 cA1 lA
      with_reducible refine Calls.mono (CV1.out _) ?_
      rintro e w2 ⟨rfl, hb⟩
      replace A := Lib.hid (A.out.next hb)
      replace BB := Lib.hid (Below.andThen BB.out hb)
      clear hb
      go_wp2_with fail
      refine bodyPost_ret (v := .tuple #[.string ⟨#[]⟩, .string ⟨#[]⟩, .string ⟨#[]⟩, .bool false]) (by first | (simp [results, Tryz.results56, go_sem]; done) | simp [results, Tryz.results56, go_sem, *]) rfl ⟨rfl, BB.out⟩
    · have d1 : decide (K < 0) = true := decide_eq_true h
      go_enter Tryz.func56, Tryz.ntmps56
      go_upto_region 1 with (fail)
      refine wp_named fun w1 hq => ?_
      obtain ⟨bA, ebA⟩ : ∃ b, b = w.heap.size := ⟨_, rfl⟩
      have A := Lib.hid (show Row w1 bA 23 [.string a1, .string a2] from by rw [hq, ebA]; exact Row.new _ _ _)
      have hb : Below w.heap.size w w1 := by rw [hq]; exact (Below.refl _ _).alloc (Nat.le_refl _) _
      replace BB := Lib.hid (Below.andThen BB.out hb)
      rw [← ebA]
      clear hq hb ebA
      obtain ⟨cA0, cA1⟩ := A.out.two
      have lA := A.out.lt
      go_wp2_with fail
      clear cA0 cA1 lA
      with_reducible refine Calls.mono (CV1.out _) ?_
      rintro e w2 ⟨rfl, hb⟩
      replace A := Lib.hid (A.out.next hb)
      replace BB := Lib.hid (Below.andThen BB.out hb)
      clear hb
      go_wp2_with fail
      refine bodyPost_ret (v := .tuple #[.string ⟨#[]⟩, .string ⟨#[]⟩, .string ⟨#[]⟩, .bool false]) (by first | (simp [results, Tryz.results56, go_sem]; done) | simp [results, Tryz.results56, go_sem, *]) rfl ⟨rfl, BB.out⟩
    · have d1 : decide (K < 0) = false := decide_eq_false h
      have d2 : decide (30 < K) = true := decide_eq_true h'
      go_enter Tryz.func56, Tryz.ntmps56
      go_upto_region 1 with (fail)
      refine wp_named fun w1 hq => ?_
      obtain ⟨bA, ebA⟩ : ∃ b, b = w.heap.size := ⟨_, rfl⟩
      have A := Lib.hid (show Row w1 bA 23 [.string a1, .string a2] from by rw [hq, ebA]; exact Row.new _ _ _)
      have hb : Below w.heap.size w w1 := by rw [hq]; exact (Below.refl _ _).alloc (Nat.le_refl _) _
      replace BB := Lib.hid (Below.andThen BB.out hb)
      rw [← ebA]
      clear hq hb ebA
      obtain ⟨cA0, cA1⟩ := A.out.two
      have lA := A.out.lt
      go_wp2_with fail
      clear cA0 cA1 lA
      with_reducible refine Calls.mono (CV1.out _) ?_
      rintro e w2 ⟨rfl, hb⟩
      replace A := Lib.hid (A.out.next hb)
      replace BB := Lib.hid (Below.andThen BB.out hb)
      clear hb
      go_wp2_with fail
      refine bodyPost_ret (v := .tuple #[.string ⟨#[]⟩, .string ⟨#[]⟩, .string ⟨#[]⟩, .bool false]) (by first | (simp [results, Tryz.results56, go_sem]; done) | simp [results, Tryz.results56, go_sem, *]) rfl ⟨rfl, BB.out⟩
  rcases k1 with ⟨h1, n1⟩ | ⟨rfl, p, hp, op, e1, e2⟩
  · exact ⟨_, _, _, _, .inl ⟨rfl, fun up => by rw [n1]; rfl⟩, bad (.inl h1)⟩
  by_cases hK : 0 ≤ K ∧ K ≤ 30
  · obtain ⟨k, rfl⟩ : ∃ k : Nat, K = k := ⟨K.toNat, by omega⟩
    have hk : k ≤ 30 := by omega
    clear bad
    dsimp only at e1 e2
    have ft : In.Fit ((10 : Int) ^ k) := Ra.fit_ten.2 (by omega)
    obtain ⟨s, e, cs, ks⟩ := rMul_e op.num ft
    rw [← e1, ← tenS_txt] at cs
    have CP := Lib.hid (fun W => power_r k W hk)
    have CS := Lib.hid cs
    have d1 : decide ((k : Int) < 0) = false := by rw [decide_eq_false_iff_not]; omega
    have d2 : decide (30 < (k : Int)) = false := by rw [decide_eq_false_iff_not]; omega
    clear cs
    rcases ks with ⟨f1, g1, rfl⟩ | ⟨f1, rfl⟩
    · have cd := rDiv_t f1 op.den (Ra.ok_ne op)
      rw [← e2, ← g1] at cd
      have CD := Lib.hid cd
      refine ⟨In.txt (p.1 * 10 ^ k / p.2), In.txt (p.1 * 10 ^ k % p.2), tenS k, true, .inr ⟨rfl, p, k, hp, op, rfl, hk, f1, rfl, rfl, tenS_txt k⟩, fun w => ?_⟩
      have BB := Lib.hid (Below.refl w.heap.size w)
      clear cd hp op e1 e2 f1 g1 ft hK hk
      generalize In.txt (p.1 * 10 ^ k / p.2) = tq at *
      generalize In.txt (p.1 * 10 ^ k % p.2) = tr at *
      generalize tenS k = tt at *
      go_enter Tryz.func56, Tryz.ntmps56
      go_upto_region 1 with (fail)
      refine wp_named fun w1 hq => ?_
      obtain ⟨bA, ebA⟩ : ∃ b, b = w.heap.size := ⟨_, rfl⟩
      have A := Lib.hid (show Row w1 bA 23 [.string a1, .string a2] from by rw [hq, ebA]; exact Row.new _ _ _)
      have hb : Below w.heap.size w w1 := by rw [hq]; exact (Below.refl _ _).alloc (Nat.le_refl _) _
      replace BB := Lib.hid (Below.andThen BB.out hb)
      rw [← ebA]
      clear hq hb ebA
      obtain ⟨cA0, cA1⟩ := A.out.two
      have lA := A.out.lt
      go_wp2_with fail
      clear cA0 cA1 lA
      with_reducible refine Calls.mono (CV1.out _) ?_
      rintro e w2 ⟨rfl, hb⟩
      replace A := Lib.hid (A.out.next hb)
      replace BB := Lib.hid (Below.andThen BB.out hb)
      clear hb
      go_wp2_with fail
      with_reducible refine Calls.mono (CP.out _) ?_
      rintro e w' ⟨rfl, rfl⟩
      obtain ⟨cA0, cA1⟩ := A.out.two
      have lA := A.out.lt
      go_wp2_with fail
      clear cA0 cA1 lA
      with_reducible refine Calls.mono (CS.out _) ?_
      rintro e w3 ⟨rfl, hb⟩
      replace A := Lib.hid (A.out.next hb)
      replace BB := Lib.hid (Below.andThen BB.out hb)
      clear hb
      obtain ⟨cA0, cA1⟩ := A.out.two
      have lA := A.out.lt
      go_wp2_with fail
      clear cA0 cA1 lA
      with_reducible refine Calls.mono (CD.out _) ?_
      rintro e w4 ⟨rfl, hb⟩
      replace A := Lib.hid (A.out.next hb)
      replace BB := Lib.hid (Below.andThen BB.out hb)
      clear hb
      go_wp2_with fail
      refine bodyPost_ret (v := .tuple #[.string tq, .string tr, .string tt, .bool true]) (by first | (simp [results, Tryz.results56, go_sem]; done) | simp [results, Tryz.results56, go_sem, *]) rfl ⟨rfl, BB.out⟩
    · refine ⟨⟨#[]⟩, ⟨#[]⟩, ⟨#[]⟩, false, .inl ⟨rfl, fun up => ?_⟩, fun w => ?_⟩
      · rw [hp, round_at hk]
        exact if_neg f1
      have BB := Lib.hid (Below.refl w.heap.size w)
      clear hp op e1 e2 f1 ft hK hk
      generalize tenS k = tt at *
      go_enter Tryz.func56, Tryz.ntmps56
      go_upto_region 1 with (fail)
      refine wp_named fun w1 hq => ?_
      obtain ⟨bA, ebA⟩ : ∃ b, b = w.heap.size := ⟨_, rfl⟩
      have A := Lib.hid (show Row w1 bA 23 [.string a1, .string a2] from by rw [hq, ebA]; exact Row.new _ _ _)
      have hb : Below w.heap.size w w1 := by rw [hq]; exact (Below.refl _ _).alloc (Nat.le_refl _) _
      replace BB := Lib.hid (Below.andThen BB.out hb)
      rw [← ebA]
      clear hq hb ebA
      obtain ⟨cA0, cA1⟩ := A.out.two
      have lA := A.out.lt
      go_wp2_with fail
      clear cA0 cA1 lA
      with_reducible refine Calls.mono (CV1.out _) ?_
      rintro e w2 ⟨rfl, hb⟩
      replace A := Lib.hid (A.out.next hb)
      replace BB := Lib.hid (Below.andThen BB.out hb)
      clear hb
      go_wp2_with fail
      with_reducible refine Calls.mono (CP.out _) ?_
      rintro e w' ⟨rfl, rfl⟩
      obtain ⟨cA0, cA1⟩ := A.out.two
      have lA := A.out.lt
      go_wp2_with fail
      clear cA0 cA1 lA
      with_reducible refine Calls.mono (CS.out _) ?_
      rintro e w3 ⟨rfl, hb⟩
      replace A := Lib.hid (A.out.next hb)
      replace BB := Lib.hid (Below.andThen BB.out hb)
      clear hb
      go_wp2_with fail
      refine bodyPost_ret (v := .tuple #[.string ⟨#[]⟩, .string ⟨#[]⟩, .string ⟨#[]⟩, .bool false]) (by first | (simp [results, Tryz.results56, go_sem]; done) | simp [results, Tryz.results56, go_sem, *]) rfl ⟨rfl, BB.out⟩
  · refine ⟨_, _, _, _, .inl ⟨rfl, fun up => ?_⟩, bad ?_⟩
    · rw [hp]
      exact if_neg hK
    · by_cases h : K < 0
      · exact .inr (.inl ⟨rfl, h⟩)
      · exact .inr (.inr ⟨rfl, h, by omega⟩)
theorem round_down {p : Int × Int} {k : Nat} (f : In.Fit (p.1 * 10 ^ k)) : Ra.roundP false p k = Ra.redO True (p.1 * 10 ^ k / p.2) (10 ^ k) := by
  unfold Ra.roundP
  rw [if_pos f, if_neg (fun h => by cases h.1)]
theorem round_up0 {p : Int × Int} {k : Nat} (f : In.Fit (p.1 * 10 ^ k)) (h : p.1 * 10 ^ k % p.2 = 0) : Ra.roundP true p k = Ra.redO True (p.1 * 10 ^ k / p.2) (10 ^ k) := by
  unfold Ra.roundP
  rw [if_pos f, if_neg (fun x => x.2 h)]
theorem round_up1 {p : Int × Int} {k : Nat} (f : In.Fit (p.1 * 10 ^ k)) (h : p.1 * 10 ^ k % p.2 ≠ 0) : Ra.roundP true p k = Ra.redO (In.Fit (p.1 * 10 ^ k / p.2 + 1)) (p.1 * 10 ^ k / p.2 + 1) (10 ^ k) := by
  unfold Ra.roundP
  rw [if_pos f, if_pos ⟨rfl, h⟩]
set_option maxRecDepth 100000 in
set_option maxHeartbeats 8000000 in
theorem rDown_r (a : ByteArray × ByteArray) (K : Int) (w : World) (ha1 : a.1.size ≤ maxLen) (ha2 : a.2.size ≤ maxLen) :
    Calls Tryz.prog 24 #[ratV a, .int .i64 K] w fun e w' => e = .returned (resV (Ra.roundO false (Ra.val a) K)) ∧ Below w.heap.size w w' := by
  obtain ⟨q, rest, t, ok, hg, cg⟩ := rgrid_r a K ha1 ha2
  have CG := Lib.hid cg
  have BB := Lib.hid (Below.refl w.heap.size w)
  have key : (ok = false ∧ resV (Ra.roundO false (Ra.val a) K) = .tuple #[ratV (⟨#[]⟩, ⟨#[]⟩), .int .i64 40]) ∨
      (ok = true ∧ ∀ W, Calls Tryz.prog 28 #[.string q, .string t] W fun r w' => r = .returned (resV (Ra.roundO false (Ra.val a) K)) ∧ Below W.heap.size W w') := by
    rcases hg with ⟨h, k⟩ | ⟨h, p, k, hp, op, rfl, hk, f, rfl, rfl, rfl⟩
    · exact .inl ⟨h, by rw [k]; rfl⟩
    · refine .inr ⟨h, fun W => ?_⟩
      rw [hp, round_at hk, round_down f]
      exact rMake_t (Nat.lt_of_le_of_lt (In.quo_le _ _) f) (Ra.fit_ten.2 (by omega)) W
  obtain ⟨q1, q2, ec, hr⟩ := res_parts (Ra.roundO false (Ra.val a) K)
  rw [hr] at key ⊢
  obtain ⟨a1, a2⟩ := a
  have KEY := Lib.hid key
  clear key hr hg cg ha1 ha2
  go_enter Tryz.func24, Tryz.ntmps24
  go_upto_region 1 with (fail)
  refine wp_named fun w1 hq => ?_
  obtain ⟨r0, r1, hb⟩ := rows2 w 23 23 [.string a1, .string a2] [.string ⟨#[]⟩, .string ⟨#[]⟩] w1 hq
  have A := Lib.hid r0
  have Z := Lib.hid r1
  have HL := Lib.hid (show w.heap.size ≤ w.heap.size + 1 by omega)
  generalize w.heap.size + 1 = bZ at *
  obtain ⟨bA, ebA⟩ : ∃ b, b = w.heap.size := ⟨_, rfl⟩
  rw [← ebA] at A ⊢
  replace BB := Lib.hid (Below.andThen BB.out hb)
  clear hq hb ebA r0 r1
  obtain ⟨cA0, cA1⟩ := A.out.two
  have lA := A.out.lt
  go_wp2_with fail
  clear cA0 cA1 lA
  with_reducible refine Calls.mono (CG.out _) ?_
  rintro e w2 ⟨rfl, hb⟩
  replace Z := Lib.hid (Z.out.next hb)
  replace BB := Lib.hid (Below.andThen BB.out hb)
  clear hb
  rcases KEY.out with ⟨rfl, hr⟩ | ⟨rfl, cm⟩
  · simp only [Value.tuple.injEq, Array.mk.injEq, List.cons.injEq, and_true, true_and, Value.int.injEq, Value.agg.injEq, Value.string.injEq] at hr
    obtain ⟨⟨rfl, rfl⟩, rfl⟩ := hr
    clear KEY
    obtain ⟨cZ0, cZ1⟩ := Z.out.two
    have lZ := Z.out.lt
    have f0 := Z.out.frozen 0
    have f1 := Z.out.frozen 1
    go_wp2_with fail
    refine bodyPost_ret (v := .tuple #[ratV (⟨#[]⟩, ⟨#[]⟩), .int .i64 40]) (by first | (simp [results, Tryz.results24, go_sem]; done) | simp [results, Tryz.results24, go_sem, *]) rfl ⟨rfl, (BB.out.setCell (p := ⟨bZ, 0, none⟩) HL.out _).setCell (p := ⟨bZ, 1, none⟩) HL.out _⟩
  · have CM := Lib.hid cm
    clear KEY cm
    go_wp2_with fail
    with_reducible refine Calls.mono (CM.out _) ?_
    rintro e w4 ⟨rfl, hb⟩
    replace Z := Lib.hid (Z.out.next hb)
    replace BB := Lib.hid (Below.andThen BB.out hb)
    clear hb
    obtain ⟨cZ0, cZ1⟩ := Z.out.two
    have lZ := Z.out.lt
    have f0 := Z.out.frozen 0
    have f1 := Z.out.frozen 1
    go_wp2_with fail
    refine bodyPost_ret (v := .tuple #[ratV (q1, q2), .int .i64 ec]) (by first | (simp [results, Tryz.results24, go_sem]; done) | simp [results, Tryz.results24, go_sem, *]) rfl ⟨rfl, (BB.out.setCell (p := ⟨bZ, 0, none⟩) HL.out _).setCell (p := ⟨bZ, 1, none⟩) HL.out _⟩
set_option maxRecDepth 100000 in
set_option maxHeartbeats 8000000 in
theorem rUp_r (a : ByteArray × ByteArray) (K : Int) (w : World) (ha1 : a.1.size ≤ maxLen) (ha2 : a.2.size ≤ maxLen) :
    Calls Tryz.prog 26 #[ratV a, .int .i64 K] w fun e w' => e = .returned (resV (Ra.roundO true (Ra.val a) K)) ∧ Below w.heap.size w w' := by
  obtain ⟨q, rest, t, ok, hg, cg⟩ := rgrid_r a K ha1 ha2
  have CG := Lib.hid cg
  have BB := Lib.hid (Below.refl w.heap.size w)
  have key : (ok = false ∧ resV (Ra.roundO true (Ra.val a) K) = .tuple #[ratV (⟨#[]⟩, ⟨#[]⟩), .int .i64 40]) ∨
      (ok = true ∧ (rest.toList == ([48] : List UInt8)) = true ∧ ∀ W, Calls Tryz.prog 28 #[.string q, .string t] W fun r w' => r = .returned (resV (Ra.roundO true (Ra.val a) K)) ∧ Below W.heap.size W w') ∨
      (ok = true ∧ (rest.toList == ([48] : List UInt8)) = false ∧ ∃ (s : ByteArray) (e : Int), (∀ W, Calls Tryz.prog 48 #[.string q, .string ⟨#[49]⟩] W fun r w' => r = .returned (.tuple #[.string s, .int .i64 e]) ∧ Below W.heap.size W w') ∧
        ((e = 30 ∧ resV (Ra.roundO true (Ra.val a) K) = .tuple #[ratV (⟨#[]⟩, ⟨#[]⟩), .int .i64 40]) ∨
         (e = 0 ∧ ∀ W, Calls Tryz.prog 28 #[.string s, .string t] W fun r w' => r = .returned (resV (Ra.roundO true (Ra.val a) K)) ∧ Below W.heap.size W w'))) := by
    rcases hg with ⟨h, k⟩ | ⟨h, p, k, hp, op, rfl, hk, f, rfl, rfl, rfl⟩
    · exact .inl ⟨h, by rw [k]; rfl⟩
    · have fq : In.Fit (p.1 * 10 ^ k / p.2) := Nat.lt_of_le_of_lt (In.quo_le _ _) f
      have ft : In.Fit ((10 : Int) ^ k) := Ra.fit_ten.2 (by omega)
      by_cases hm : p.1 * 10 ^ k % p.2 = 0
      · refine .inr (.inl ⟨h, by rw [zero_text]; exact decide_eq_true hm, fun W => ?_⟩)
        rw [hp, round_at hk, round_up0 f hm]
        exact rMake_t fq ft W
      · refine .inr (.inr ⟨h, by rw [zero_text]; exact decide_eq_false hm, ?_⟩)
        rw [hp, round_at hk, round_up1 f hm]
        have ca := fun W => rAdd_any (In.txt (p.1 * 10 ^ k / p.2)) ⟨#[49]⟩ W (txt_le fq) (by decide)
        rw [In.opS_some (In.num_fit fq) num1] at ca
        by_cases h4 : In.Fit (p.1 * 10 ^ k / p.2 + 1)
        · rw [show In.fit ((fun x y => x + y) (p.1 * 10 ^ k / p.2) 1) = (In.txt (p.1 * 10 ^ k / p.2 + 1), 0) from In.fit_pos h4] at ca
          refine ⟨_, _, ca, .inr ⟨rfl, fun W => ?_⟩⟩
          rw [redO_tr h4]
          exact rMake_t h4 ft W
        · rw [show In.fit ((fun x y => x + y) (p.1 * 10 ^ k / p.2) 1) = (⟨#[]⟩, 30) from In.fit_neg h4] at ca
          refine ⟨_, _, ca, .inl ⟨rfl, ?_⟩⟩
          rw [redO_not h4]
          rfl
  obtain ⟨q1, q2, ec, hr⟩ := res_parts (Ra.roundO true (Ra.val a) K)
  rw [hr] at key ⊢
  obtain ⟨a1, a2⟩ := a
  have KEY := Lib.hid key
  clear key hr hg cg ha1 ha2
  go_enter Tryz.func26, Tryz.ntmps26
  go_upto_region 1 with (fail)
  refine wp_named fun w1 hq => ?_
  obtain ⟨r0, r1, hb⟩ := rows2 w 23 23 [.string a1, .string a2] [.string ⟨#[]⟩, .string ⟨#[]⟩] w1 hq
  have A := Lib.hid r0
  have Z := Lib.hid r1
  have HL := Lib.hid (show w.heap.size ≤ w.heap.size + 1 by omega)
  generalize w.heap.size + 1 = bZ at *
  obtain ⟨bA, ebA⟩ : ∃ b, b = w.heap.size := ⟨_, rfl⟩
  rw [← ebA] at A ⊢
  replace BB := Lib.hid (Below.andThen BB.out hb)
  clear hq hb ebA r0 r1
  obtain ⟨cA0, cA1⟩ := A.out.two
  have lA := A.out.lt
  go_wp2_with fail
  clear cA0 cA1 lA
  with_reducible refine Calls.mono (CG.out _) ?_
  rintro e w2 ⟨rfl, hb⟩
  replace Z := Lib.hid (Z.out.next hb)
  replace BB := Lib.hid (Below.andThen BB.out hb)
  clear hb
  rcases KEY.out with ⟨rfl, hr⟩ | ⟨rfl, hz, cm⟩ | ⟨rfl, hz, s, e, ca, ⟨rfl, hr⟩ | ⟨rfl, cm⟩⟩
  · simp only [Value.tuple.injEq, Array.mk.injEq, List.cons.injEq, and_true, true_and, Value.int.injEq, Value.agg.injEq, Value.string.injEq] at hr
    obtain ⟨⟨rfl, rfl⟩, rfl⟩ := hr
    clear KEY
    obtain ⟨cZ0, cZ1⟩ := Z.out.two
    have lZ := Z.out.lt
    have f0 := Z.out.frozen 0
    have f1 := Z.out.frozen 1
    go_wp2_with fail
    refine bodyPost_ret (v := .tuple #[ratV (⟨#[]⟩, ⟨#[]⟩), .int .i64 40]) (by first | (simp [results, Tryz.results26, go_sem]; done) | simp [results, Tryz.results26, go_sem, *]) rfl ⟨rfl, (BB.out.setCell (p := ⟨bZ, 0, none⟩) HL.out _).setCell (p := ⟨bZ, 1, none⟩) HL.out _⟩
  · have CM := Lib.hid cm
    clear KEY cm
    go_wp2_with fail
    with_reducible refine Calls.mono (CM.out _) ?_
    rintro e w4 ⟨rfl, hb⟩
    replace Z := Lib.hid (Z.out.next hb)
    replace BB := Lib.hid (Below.andThen BB.out hb)
    clear hb
    obtain ⟨cZ0, cZ1⟩ := Z.out.two
    have lZ := Z.out.lt
    have f0 := Z.out.frozen 0
    have f1 := Z.out.frozen 1
    go_wp2_with fail
    refine bodyPost_ret (v := .tuple #[ratV (q1, q2), .int .i64 ec]) (by first | (simp [results, Tryz.results26, go_sem]; done) | simp [results, Tryz.results26, go_sem, *]) rfl ⟨rfl, (BB.out.setCell (p := ⟨bZ, 0, none⟩) HL.out _).setCell (p := ⟨bZ, 1, none⟩) HL.out _⟩
  · simp only [Value.tuple.injEq, Array.mk.injEq, List.cons.injEq, and_true, true_and, Value.int.injEq, Value.agg.injEq, Value.string.injEq] at hr
    obtain ⟨⟨rfl, rfl⟩, rfl⟩ := hr
    have CA := Lib.hid ca
    clear KEY ca
    go_wp2_with fail
    with_reducible refine Calls.mono (CA.out _) ?_
    rintro e w3 ⟨rfl, hb⟩
    replace Z := Lib.hid (Z.out.next hb)
    replace BB := Lib.hid (Below.andThen BB.out hb)
    clear hb
    obtain ⟨cZ0, cZ1⟩ := Z.out.two
    have lZ := Z.out.lt
    have f0 := Z.out.frozen 0
    have f1 := Z.out.frozen 1
    go_wp2_with fail
    refine bodyPost_ret (v := .tuple #[ratV (⟨#[]⟩, ⟨#[]⟩), .int .i64 40]) (by first | (simp [results, Tryz.results26, go_sem]; done) | simp [results, Tryz.results26, go_sem, *]) rfl ⟨rfl, (BB.out.setCell (p := ⟨bZ, 0, none⟩) HL.out _).setCell (p := ⟨bZ, 1, none⟩) HL.out _⟩
  · have CA := Lib.hid ca
    have CM := Lib.hid cm
    clear KEY ca cm
    go_wp2_with fail
    with_reducible refine Calls.mono (CA.out _) ?_
    rintro e w3 ⟨rfl, hb⟩
    replace Z := Lib.hid (Z.out.next hb)
    replace BB := Lib.hid (Below.andThen BB.out hb)
    clear hb
    go_wp2_with fail
    with_reducible refine Calls.mono (CM.out _) ?_
    rintro e w4 ⟨rfl, hb⟩
    replace Z := Lib.hid (Z.out.next hb)
    replace BB := Lib.hid (Below.andThen BB.out hb)
    clear hb
    obtain ⟨cZ0, cZ1⟩ := Z.out.two
    have lZ := Z.out.lt
    have f0 := Z.out.frozen 0
    have f1 := Z.out.frozen 1
    go_wp2_with fail
    refine bodyPost_ret (v := .tuple #[ratV (q1, q2), .int .i64 ec]) (by first | (simp [results, Tryz.results26, go_sem]; done) | simp [results, Tryz.results26, go_sem, *]) rfl ⟨rfl, (BB.out.setCell (p := ⟨bZ, 0, none⟩) HL.out _).setCell (p := ⟨bZ, 1, none⟩) HL.out _⟩
end Go.Proofs.YtlehjmanlccncaaGreatDoor
