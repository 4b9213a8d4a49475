/- WordInText holds for every input: if words that are no number words follow the words of a number, wherever these stand, Prefix there returns the number, and how many words it has. The tables are as the program's text lays them. -/
import Derived.Test.YtebdpdmkehfgfaaDoorWoZ
import Derived.Test.YtebdpdmkehfgfaaDoorWoFr
set_option linter.unusedVariables false
set_option linter.unusedSimpArgs false
namespace Go.Proofs.YtebdpdmkehfgfaaDoor
open Go.RowKit Go.ChangeShapes Go.WideShapes Go.ChangeAt
namespace Wo
/-- new blocks alone since v -/
def Since (v w : World) : Prop := Below v.heap.size v w
theorem Since.next {v w w' : World} (h : Since v w) (hb : Below w.heap.size w w') : Since v w' := Below.andThen h hb
/-- words behind a number: none, if the first one is a number word -/
def behind (k : Nat) (X : List B) : List B := if (match X.head? with
  | some s => isW k s
  | none => true) then [] else X
theorem behind_nil (k : Nat) : behind k [] = [] := rfl
theorem behind_yes {k : Nat} {s : B} {r : List B} (h : isW k s = true) : behind k (s :: r) = [] := if_pos h
theorem behind_not {k : Nat} {s : B} {r : List B} (h : isW k s = false) : behind k (s :: r) = s :: r := if_neg (by
  show ¬ isW k s = true
  rw [h]
  simp)
theorem behind_no (k : Nat) (X : List B) : ∀ s r, behind k X = s :: r → isW k s = false := by
  intro s r h
  cases X with
  | nil =>
    rw [behind_nil] at h
    exact absurd h (by simp)
  | cons a l =>
    cases hw : isW k a with
    | true =>
      rw [behind_yes hw] at h
      exact absurd h (by simp)
    | false =>
      rw [behind_not hw] at h
      rw [← (List.cons.inj h).1]
      exact hw
theorem behind_sub (k : Nat) (X : List B) : (behind k X).length ≤ X.length ∧ ∀ s ∈ behind k X, s ∈ X := by
  cases X with
  | nil => exact ⟨Nat.le_refl _, fun s h => h⟩
  | cons a l =>
    cases hw : isW k a with
    | true =>
      rw [behind_yes hw]
      exact ⟨Nat.zero_le _, fun s h => absurd h (by simp)⟩
    | false =>
      rw [behind_not hw]
      exact ⟨Nat.le_refl _, fun s h => h⟩
end Wo
open Wo in
set_option maxRecDepth 100000 in
set_option maxHeartbeats 8000000 in
theorem wordInText_law (x0 n0 : Int) (o1 : Option Addr) (n1 c1 : Nat) (S1 : Nat → ByteArray) (o2 : Option Addr) (n2 c2 : Nat) (S2 : Nat → ByteArray) (w : World) (T : Wo.Tab w) (hx : -9223372036854775808 ≤ x0 ∧ x0 ≤ 9223372036854775807) (hn0 : -9223372036854775808 ≤ n0 ∧ n0 ≤ 9223372036854775807)
    (hn1 : n1 ≤ maxLen) (hs1 : ∀ i, i < n1 → (S1 i).size ≤ maxLen) (hcell1 : ∀ i, i < n1 → ∃ a, o1 = some a ∧ ∀ w', Below w.heap.size w w' → w'.cell? (a.add i) = some (.string (S1 i)))
    (hn2 : n2 ≤ maxLen) (hs2 : ∀ i, i < n2 → (S2 i).size ≤ maxLen) (hcell2 : ∀ i, i < n2 → ∃ a, o2 = some a ∧ ∀ w', Below w.heap.size w w' → w'.cell? (a.add i) = some (.string (S2 i))) :
    Calls Tryd.prog 6 #[.int .i64 x0, .int .i64 n0, .slice o1 n1 c1, .slice o2 n2 c2] w fun e w' => e = .returned (.bool true) ∧ Below w.heap.size w w' := by
  obtain ⟨k, hk, PK⟩ := pick_k x0 3 3 rfl (by decide) hx
  obtain ⟨m, hm6, PM⟩ := pick_k n0 1000000 1000000 rfl (by decide) hn0
  have HPK := Lib.hid PK
  have HPM := Lib.hid PM
  have HT := Lib.hid T
  have HT0 := Lib.hid T
  have BB := Lib.hid (Below.refl w.heap.size w)
  have CF1 := Lib.hid (fun w' (hb : Below w.heap.size w w') => few_any o1 n1 c1 S1 w' hn1 hs1 (fun i hi => by
    obtain ⟨a, e, h⟩ := hcell1 i hi
    exact ⟨a, e, fun w2 hb2 => h w2 (Below.andThen hb hb2)⟩))
  have CF2 := Lib.hid (fun w' (hb : Below w.heap.size w w') => few_any o2 n2 c2 S2 w' hn2 hs2 (fun i hi => by
    obtain ⟨a, e, h⟩ := hcell2 i hi
    exact ⟨a, e, fun w2 hb2 => h w2 (Below.andThen hb hb2)⟩))
  have LA := Lib.hid (words_len k hm6)
  have WA := Lib.hid (words_small k hm6)
  have CA := Lib.hid (fun L hL W T => Words_k k m L m hk hL rfl hm6 W T)
  have CI := Lib.hid (fun (s : B) (hs : s.length ≤ 1000) L (hL : L = 1 + (k : Int)) W T => Is_k k L hk hL s (by omega) W T)
  have CW := Lib.hid (fun (j : Nat) (hj : j < 1000000) J (hJ : J = (j : Int)) L (hL : L = 1 + (k : Int)) W T => Words_k k j L J hk hL hJ hj W T)
  have CP := Lib.hid (fun (i : Nat) g N c l L (hL : L = 1 + (k : Int)) W T (hi : i < N) H => Prefix_yes k i hk L (by omega) g 0 N c l W T hi H)
  have PF := Lib.hid (fun H Y hY => pre_found k hk hm6 H Y hY)
  have PI := Lib.hid (fun l i x y h => pre_is k l i (n := x) (m := y) h)
  obtain ⟨H, hH⟩ : ∃ X, X = fewL S1 (min n1 10) := ⟨_, rfl⟩
  have HL := Lib.hid (show H.length ≤ 10 by rw [hH, fewL_length]; omega)
  have HZ := Lib.hid (show ∀ s ∈ H, s.length ≤ 60 by rw [hH]; exact fewL_small _ _)
  rw [← hH] at CF1
  obtain ⟨X, hX⟩ : ∃ X, X = fewL S2 (min n2 10) := ⟨_, rfl⟩
  have XL := Lib.hid (show X.length ≤ 10 by rw [hX, fewL_length]; omega)
  have XZ := Lib.hid (show ∀ s ∈ X, s.length ≤ 60 by rw [hX]; exact fewL_small _ _)
  rw [← hX] at CF2
  obtain ⟨Y, hY⟩ : ∃ Y, behind k X = Y := ⟨_, rfl⟩
  have YN := Lib.hid (show ∀ s r, Y = s :: r → isW k s = false by rw [← hY]; exact behind_no k X)
  have YS := Lib.hid (show Y.length ≤ X.length ∧ ∀ s ∈ Y, s ∈ X by rw [← hY]; exact behind_sub k X)
  have HY := Lib.hid hY
  have PFY := Lib.hid (PF.out H Y YN.out)
  generalize words k m = A at *
  clear T PK PM hcell1 hcell2 hs1 hs2 hx hn0 hX hH hY
  go_enter Tryd.func6, Tryd.ntmps6
  go_wp2_with fail
  with_reducible refine Calls.mono (sane_any _ HT.out) ?_
  rintro e w1 ⟨rfl, hb⟩
  replace HT := Lib.hid (HT.out.next hb)
  replace BB := Lib.hid (Below.andThen BB.out hb)
  clear hb
  go_wp2_with fail
  with_reducible refine Calls.mono (HPK.out _) ?_
  rintro e w' ⟨rfl, rfl⟩
  go_wp2_with fail
  with_reducible refine Calls.mono (HPM.out _) ?_
  rintro e w' ⟨rfl, rfl⟩
  go_wp2_with fail
  with_reducible refine Calls.mono (CA.out _ (by rfl) _ HT.out) ?_
  rintro e w2 ⟨v, rfl, ho, hb⟩
  replace HT := Lib.hid (HT.out.next hb)
  replace BB := Lib.hid (Below.andThen BB.out hb)
  obtain ⟨oA, cA, rfl, -, -, ncA, hsl⟩ := ho.form; have SA := Lib.hid hsl; clear ho hsl
  clear hb
  go_wp2_with fail
  with_reducible refine Calls.mono (CF1.out _ BB.out) ?_
  rintro e w3 ⟨v, rfl, ho, hb⟩
  replace HT := Lib.hid (HT.out.next hb)
  replace SA := Lib.hid (SA.out.next hb)
  replace BB := Lib.hid (Below.andThen BB.out hb)
  obtain ⟨oH, cH, rfl, -, -, ncH, hsl⟩ := ho.form; have SH := Lib.hid hsl; clear ho hsl
  clear hb
  go_wp2_with fail
  with_reducible refine Calls.mono (CF2.out _ BB.out) ?_
  rintro e w4 ⟨v, rfl, ho, hb⟩
  replace HT := Lib.hid (HT.out.next hb)
  replace SA := Lib.hid (SA.out.next hb)
  replace SH := Lib.hid (SH.out.next hb)
  replace BB := Lib.hid (Below.andThen BB.out hb)
  obtain ⟨oX, cX, rfl, -, -, ncX, hsl⟩ := ho.form; have SX := Lib.hid hsl; clear ho hsl
  clear hb
  go_upto_region 11 with (fail)
  cases X with
  | nil =>
    obtain rfl : Y = [] := HY.out.symm.trans (behind_nil k)
    obtain ⟨NY, hNY⟩ : ∃ NY, ([] : List B).length = NY := ⟨_, rfl⟩
    have hz : ¬ (0 : Int) < NY := by rw [← hNY]; decide
    rw [hNY]
    have HNY := Lib.hid hNY
    clear hNY
    have ncY := Lib.hid ncX
    have SY := SX
    have LH := HL.out
    have LA2 := LA.out.2
    have LY : NY ≤ 10 := by have := YS.out.1; have := XL.out; have := HNY.out; omega
    have gT := Lib.hid (show (none : Option Addr) = none from rfl)
    go_upto_region 16 with (at_builtin; first
      | (refine wpList_append_strs rfl _ _ rfl rfl w4.heap.size (.slice (some ⟨w4.heap.size, 0, none⟩) 0 0) [] rfl (made_own w4 [] (Nat.le_refl _) rfl rfl (by decide)) oH H.length cH H rfl rfl ncH (SH.out.next ((Below.refl _ _).alloc (Nat.le_refl _) _)) (by simp; omega) (by simp) ?_; intro V1 w6 ho hg; have HO := Lib.hid ho; have HB6 := Lib.hid (grown_below (Below.refl w4.heap.size w4) hg (made_own w4 [] (Nat.le_refl _) rfl rfl (by decide)).block); clear ho hg)
      | (refine wpList_append_strs rfl _ _ rfl rfl w4.heap.size V1 ([] ++ H) rfl HO.out oA A.length cA A rfl rfl ncA (SA.out.next HB6.out) (by simp; omega) HB6.out.size ?_; intro V2 w7 ho hg; have HO2 := Lib.hid ho; have HB7 := Lib.hid (HB6.out.grown hg HB6.out.size HO.out.block); clear ho hg)
      | (refine wpList_append_strs rfl _ _ rfl rfl w4.heap.size V2 ([] ++ H ++ A) rfl HO2.out oX NY cX ([] : List B) rfl HNY.out ncY.out (SY.out.next HB7.out) (by simp; omega) HB7.out.size ?_; intro V3 w8 ho hg; have HO3 := Lib.hid ho; have HB8 := Lib.hid (HB7.out.grown hg HB7.out.size HO2.out.block); clear ho hg))
    obtain ⟨Z, hZ⟩ : ∃ Z, [] ++ H ++ A ++ ([] : List B) = Z := ⟨_, rfl⟩
    rw [hZ] at HO3
    have hZ2 : H ++ A ++ ([] : List B) = Z := by rw [← hZ]; simp
    have hZn : Z.length = H.length + A.length + NY := by rw [← hZ2, List.length_append, List.length_append, HNY.out]
    have ZS := Lib.hid (show ∀ s ∈ Z, s.length ≤ 100 from by
      intro s hs
      rw [← hZ2] at hs
      rcases List.mem_append.1 hs with h | h
      · rcases List.mem_append.1 h with h | h
        · have := HZ.out s h; omega
        · exact WA.out s h
      · have := XZ.out s (YS.out.2 s h); omega)
    rw [hZ2] at PFY
    obtain ⟨zk, hzk⟩ : ∃ zk, Z.length = zk + 1 := ⟨Z.length - 1, by have := LA.out.1; omega⟩
    have hown := HO3.out
    obtain ⟨gZ, cZ, rfl, hg0, hgl, -⟩ := hown.some hzk
    obtain ⟨o8, c8, e8, hc1, hc2, -, hsl⟩ := hown.form
    obtain ⟨e81, -, e83⟩ := Value.slice.inj e8
    subst e81
    subst e83
    obtain ⟨NZ, hNZ⟩ : ∃ NZ, zk + 1 = NZ := ⟨_, rfl⟩
    have HW := Lib.hid (show Ws w8 (some ⟨gZ, 0, none⟩) NZ cZ Z from ⟨hsl, hzk.trans hNZ, fun e => by rw [e] at hzk; simp at hzk, by omega, by omega, hc2, fun s hs => Nat.le_trans (ZS.out s hs) (by decide)⟩)
    have ZN := Lib.hid (hzk.trans hNZ)
    have hHN : H.length < NZ := by have := LA.out.1; omega
    have hcap : NZ ≤ cZ := by omega
    have hN40 : NZ ≤ 40 := by omega
    rw [hNZ]
    replace HT := Lib.hid (HT.out.next HB8.out)
    replace BB := Lib.hid (Below.andThen BB.out HB8.out)
    have CPH := Lib.hid (fun L hL W T HH => CP.out H.length gZ NZ cZ Z L hL W T hHN HH)
    rw [PFY.out] at CPH
    unfold preV at CPH
    clear hown hsl hZ hZ2 HO HO2 HO3 hc1 hNZ hzk hZn SA SH SY HB6 HB7 HB8 gT
    go_wp2_with fail
    with_reducible refine Calls.mono (CPH.out _ (by rfl) _ HT.out HW.out) ?_
    rintro e w9 ⟨rfl, hb⟩
    replace HT := Lib.hid (HT.out.next hb)
    replace HW := Lib.hid (HW.out.next hb)
    replace BB := Lib.hid (Below.andThen BB.out hb)
    clear hb
    go_wp2_with fail
    have HT9 := HT
    have HW9 := HW
    have BB9 := BB
    go_loopw [21] (fun iv wr => ∃ i : Nat, iv = .int .i64 i ∧ i ≤ NZ ∧ Below w9.heap.size w9 wr) (fun iv _ => NZ - (intOf iv).toNat)
    case atStart => exact ⟨0, rfl, Nat.zero_le _, Below.refl _ _⟩
    case round =>
      obtain ⟨i, rfl, hi, hB⟩ := hrel
      replace HT := Lib.hid (HT9.out.next hB)
      replace HW := Lib.hid (HW9.out.next hB)
      replace BB := Lib.hid (Below.andThen BB9.out hB)
      have HBr := Lib.hid (show Since w9 _ from hB)
      clear hB
      by_cases hlt : i < NZ
      · have CPi := Lib.hid (fun L hL W T HH => CP.out i gZ NZ cZ Z L hL W T hlt HH)
        cases hpr : pre k Z i with
        | none =>
          rw [hpr] at CPi
          unfold preV at CPi
          clear hpr
          go_wp2_with fail
          with_reducible refine Calls.mono (CPi.out _ (by rfl) _ HT.out HW.out) ?_
          rintro e w10 ⟨rfl, hb⟩
          replace HT := Lib.hid (HT.out.next hb)
          replace HW := Lib.hid (HW.out.next hb)
          replace HBr := Lib.hid (HBr.out.next hb)
          replace BB := Lib.hid (Below.andThen BB.out hb)
          clear hb
          go_wp2_with fail
          go_roundw
          case rel => exact ⟨i + 1, by go_num, by omega, HBr.out⟩
          case measure => simp [intOf]; omega
        | some xy =>
          obtain ⟨x, y⟩ := xy
          rw [hpr] at CPi
          unfold preV at CPi
          obtain ⟨hy1, hiy, hx6, hwx⟩ := PI.out Z i x y hpr
          rw [ZN.out] at hiy
          have CWx := Lib.hid (fun L hL W T => CW.out x hx6 x rfl L hL W T)
          rw [hwx] at CWx
          have CS := Lib.hid (fun W oW cW (of : Nat) (hof : of = 0 + i) (h1 : SSl W oW ((Z.drop i).take y)) (HH : Ws W (some ⟨gZ, 0, none⟩) NZ cZ Z) => (show Calls Tryd.prog 18 #[.slice oW y cW, .slice (some ⟨gZ, of, none⟩) y (cZ - i)] W fun e w' => e = .returned (.bool true) ∧ Below W.heap.size W w' from by
            have hyl : ((Z.drop i).take y).length = y := by rw [List.length_take, List.length_drop, ZN.out]; omega
            subst hof
            have h := Same_any oW (some ⟨gZ, 0 + i, none⟩) y cW y (cZ - i) ((Z.drop i).take y) ((Z.drop i).take y) W hyl hyl (by omega) (by omega) h1 ((HH.sl.drop i).take y)
            rw [decide_eq_true rfl] at h
            exact h))
          have HYL := Lib.hid (show ((Z.drop i).take y).length = y from by rw [List.length_take, List.length_drop, ZN.out]; omega)
          generalize (Z.drop i).take y = R at *
          have d1 : ¬ (y : Int) < 1 := by omega
          have d2 : ¬ (NZ : Int) < i + y := by omega
          have d3 : ¬ (cZ : Int) = i := by omega
          clear hpr hwx
          go_wp2_with fail
          with_reducible refine Calls.mono (CPi.out _ (by rfl) _ HT.out HW.out) ?_
          rintro e w10 ⟨rfl, hb⟩
          replace HT := Lib.hid (HT.out.next hb)
          replace HW := Lib.hid (HW.out.next hb)
          replace HBr := Lib.hid (HBr.out.next hb)
          replace BB := Lib.hid (Below.andThen BB.out hb)
          clear hb
          go_wp2_with fail
          with_reducible refine Calls.mono (CWx.out _ (by rfl) _ HT.out) ?_
          rintro e w11 ⟨v, rfl, ho, hb⟩
          replace HT := Lib.hid (HT.out.next hb)
          replace HW := Lib.hid (HW.out.next hb)
          replace HBr := Lib.hid (HBr.out.next hb)
          replace BB := Lib.hid (Below.andThen BB.out hb)
          obtain ⟨oW, cW, rfl, -, -, -, hsl⟩ := ho.form; have SW := Lib.hid hsl; clear ho hsl; rw [HYL.out]
          clear hb
          go_wp2_with fail
          with_reducible refine Calls.mono (CS.out _ _ _ _ (by omega) SW.out HW.out) ?_
          rintro e w12 ⟨rfl, hb⟩
          replace HBr := Lib.hid (HBr.out.next hb)
          clear hb
          go_wp2_with fail
          go_roundw
          case rel => exact ⟨i + 1, by go_num, by omega, HBr.out⟩
          case measure => simp [intOf]; omega
      · obtain rfl : i = NZ := by omega
        go_wp2_with fail
        go_ret
        exact ⟨rfl, BB.out⟩
  | cons s r =>
    obtain ⟨b1, f1, rfl, hb1, hc1⟩ := SX.out.cells (by simp)
    have k0 := hc1 0 s rfl
    rw [Nat.add_zero] at k0
    have CIt := Lib.hid (fun L hL W T => CI.out s (by have := XZ.out s (by simp); omega) L hL W T)
    obtain ⟨n', hn'⟩ : ∃ n', (s :: r).length = n' := ⟨_, rfl⟩
    have hpos : (0 : Int) < n' := by rw [← hn', List.length_cons]; omega
    rw [hn']
    have HN' := Lib.hid hn'
    clear hc1 hn'
    cases hw : isW k s with
    | true =>
      rw [hw] at CIt
      obtain rfl : Y = [] := HY.out.symm.trans (behind_yes hw)
      clear hw
      go_wp2_with fail
      with_reducible refine Calls.mono (CIt.out _ (by rfl) _ HT.out) ?_
      rintro e w5 ⟨rfl, hb⟩
      replace HT := Lib.hid (HT.out.next hb)
      replace SA := Lib.hid (SA.out.next hb)
      replace SH := Lib.hid (SH.out.next hb)
      replace BB := Lib.hid (Below.andThen BB.out hb)
      clear hb k0
      have SY := Lib.hid (show SSl w5 none [] from .inl rfl)
      have HNY := Lib.hid (show ([] : List B).length = 0 from rfl)
      have ncY := Lib.hid (show (none : Option Addr) = none → 0 = 0 from fun _ => rfl)
      have LH := HL.out
      have LA2 := LA.out.2
      have LY : 0 ≤ 10 := by decide
      have gT := Lib.hid (show (none : Option Addr) = none from rfl)
      go_upto_region 16 with (at_builtin; first
        | (refine wpList_append_strs rfl _ _ rfl rfl w5.heap.size (.slice (some ⟨w5.heap.size, 0, none⟩) 0 0) [] rfl (made_own w5 [] (Nat.le_refl _) rfl rfl (by decide)) oH H.length cH H rfl rfl ncH (SH.out.next ((Below.refl _ _).alloc (Nat.le_refl _) _)) (by simp; omega) (by simp) ?_; intro V1 w6 ho hg; have HO := Lib.hid ho; have HB6 := Lib.hid (grown_below (Below.refl w5.heap.size w5) hg (made_own w5 [] (Nat.le_refl _) rfl rfl (by decide)).block); clear ho hg)
        | (refine wpList_append_strs rfl _ _ rfl rfl w5.heap.size V1 ([] ++ H) rfl HO.out oA A.length cA A rfl rfl ncA (SA.out.next HB6.out) (by simp; omega) HB6.out.size ?_; intro V2 w7 ho hg; have HO2 := Lib.hid ho; have HB7 := Lib.hid (HB6.out.grown hg HB6.out.size HO.out.block); clear ho hg)
        | (refine wpList_append_strs rfl _ _ rfl rfl w5.heap.size V2 ([] ++ H ++ A) rfl HO2.out none 0 0 ([] : List B) rfl rfl (fun _ => rfl) (SY.out.next HB7.out) (by simp; omega) HB7.out.size ?_; intro V3 w8 ho hg; have HO3 := Lib.hid ho; have HB8 := Lib.hid (HB7.out.grown hg HB7.out.size HO2.out.block); clear ho hg))
      obtain ⟨Z, hZ⟩ : ∃ Z, [] ++ H ++ A ++ ([] : List B) = Z := ⟨_, rfl⟩
      rw [hZ] at HO3
      have hZ2 : H ++ A ++ ([] : List B) = Z := by rw [← hZ]; simp
      have hZn : Z.length = H.length + A.length + 0 := by rw [← hZ2]; simp
      have ZS := Lib.hid (show ∀ s ∈ Z, s.length ≤ 100 from by
        intro s hs
        rw [← hZ2] at hs
        rcases List.mem_append.1 hs with h | h
        · rcases List.mem_append.1 h with h | h
          · have := HZ.out s h; omega
          · exact WA.out s h
        · have := XZ.out s (YS.out.2 s h); omega)
      rw [hZ2] at PFY
      obtain ⟨zk, hzk⟩ : ∃ zk, Z.length = zk + 1 := ⟨Z.length - 1, by have := LA.out.1; omega⟩
      have hown := HO3.out
      obtain ⟨gZ, cZ, rfl, hg0, hgl, -⟩ := hown.some hzk
      obtain ⟨o8, c8, e8, hc1, hc2, -, hsl⟩ := hown.form
      obtain ⟨e81, -, e83⟩ := Value.slice.inj e8
      subst e81
      subst e83
      obtain ⟨NZ, hNZ⟩ : ∃ NZ, zk + 1 = NZ := ⟨_, rfl⟩
      have HW := Lib.hid (show Ws w8 (some ⟨gZ, 0, none⟩) NZ cZ Z from ⟨hsl, hzk.trans hNZ, fun e => by rw [e] at hzk; simp at hzk, by omega, by omega, hc2, fun s hs => Nat.le_trans (ZS.out s hs) (by decide)⟩)
      have ZN := Lib.hid (hzk.trans hNZ)
      have hHN : H.length < NZ := by have := LA.out.1; omega
      have hcap : NZ ≤ cZ := by omega
      have hN40 : NZ ≤ 40 := by omega
      rw [hNZ]
      replace HT := Lib.hid (HT.out.next HB8.out)
      replace BB := Lib.hid (Below.andThen BB.out HB8.out)
      have CPH := Lib.hid (fun L hL W T HH => CP.out H.length gZ NZ cZ Z L hL W T hHN HH)
      rw [PFY.out] at CPH
      unfold preV at CPH
      clear hown hsl hZ hZ2 HO HO2 HO3 hc1 hNZ hzk hZn SA SH SY HB6 HB7 HB8 gT
      go_wp2_with fail
      with_reducible refine Calls.mono (CPH.out _ (by rfl) _ HT.out HW.out) ?_
      rintro e w9 ⟨rfl, hb⟩
      replace HT := Lib.hid (HT.out.next hb)
      replace HW := Lib.hid (HW.out.next hb)
      replace BB := Lib.hid (Below.andThen BB.out hb)
      clear hb
      go_wp2_with fail
      have HT9 := HT
      have HW9 := HW
      have BB9 := BB
      go_loopw [21] (fun iv wr => ∃ i : Nat, iv = .int .i64 i ∧ i ≤ NZ ∧ Below w9.heap.size w9 wr) (fun iv _ => NZ - (intOf iv).toNat)
      case atStart => exact ⟨0, rfl, Nat.zero_le _, Below.refl _ _⟩
      case round =>
        obtain ⟨i, rfl, hi, hB⟩ := hrel
        replace HT := Lib.hid (HT9.out.next hB)
        replace HW := Lib.hid (HW9.out.next hB)
        replace BB := Lib.hid (Below.andThen BB9.out hB)
        have HBr := Lib.hid (show Since w9 _ from hB)
        clear hB
        by_cases hlt : i < NZ
        · have CPi := Lib.hid (fun L hL W T HH => CP.out i gZ NZ cZ Z L hL W T hlt HH)
          cases hpr : pre k Z i with
          | none =>
            rw [hpr] at CPi
            unfold preV at CPi
            clear hpr
            go_wp2_with fail
            with_reducible refine Calls.mono (CPi.out _ (by rfl) _ HT.out HW.out) ?_
            rintro e w10 ⟨rfl, hb⟩
            replace HT := Lib.hid (HT.out.next hb)
            replace HW := Lib.hid (HW.out.next hb)
            replace HBr := Lib.hid (HBr.out.next hb)
            replace BB := Lib.hid (Below.andThen BB.out hb)
            clear hb
            go_wp2_with fail
            go_roundw
            case rel => exact ⟨i + 1, by go_num, by omega, HBr.out⟩
            case measure => simp [intOf]; omega
          | some xy =>
            obtain ⟨x, y⟩ := xy
            rw [hpr] at CPi
            unfold preV at CPi
            obtain ⟨hy1, hiy, hx6, hwx⟩ := PI.out Z i x y hpr
            rw [ZN.out] at hiy
            have CWx := Lib.hid (fun L hL W T => CW.out x hx6 x rfl L hL W T)
            rw [hwx] at CWx
            have CS := Lib.hid (fun W oW cW (of : Nat) (hof : of = 0 + i) (h1 : SSl W oW ((Z.drop i).take y)) (HH : Ws W (some ⟨gZ, 0, none⟩) NZ cZ Z) => (show Calls Tryd.prog 18 #[.slice oW y cW, .slice (some ⟨gZ, of, none⟩) y (cZ - i)] W fun e w' => e = .returned (.bool true) ∧ Below W.heap.size W w' from by
              have hyl : ((Z.drop i).take y).length = y := by rw [List.length_take, List.length_drop, ZN.out]; omega
              subst hof
              have h := Same_any oW (some ⟨gZ, 0 + i, none⟩) y cW y (cZ - i) ((Z.drop i).take y) ((Z.drop i).take y) W hyl hyl (by omega) (by omega) h1 ((HH.sl.drop i).take y)
              rw [decide_eq_true rfl] at h
              exact h))
            have HYL := Lib.hid (show ((Z.drop i).take y).length = y from by rw [List.length_take, List.length_drop, ZN.out]; omega)
            generalize (Z.drop i).take y = R at *
            have d1 : ¬ (y : Int) < 1 := by omega
            have d2 : ¬ (NZ : Int) < i + y := by omega
            have d3 : ¬ (cZ : Int) = i := by omega
            clear hpr hwx
            go_wp2_with fail
            with_reducible refine Calls.mono (CPi.out _ (by rfl) _ HT.out HW.out) ?_
            rintro e w10 ⟨rfl, hb⟩
            replace HT := Lib.hid (HT.out.next hb)
            replace HW := Lib.hid (HW.out.next hb)
            replace HBr := Lib.hid (HBr.out.next hb)
            replace BB := Lib.hid (Below.andThen BB.out hb)
            clear hb
            go_wp2_with fail
            with_reducible refine Calls.mono (CWx.out _ (by rfl) _ HT.out) ?_
            rintro e w11 ⟨v, rfl, ho, hb⟩
            replace HT := Lib.hid (HT.out.next hb)
            replace HW := Lib.hid (HW.out.next hb)
            replace HBr := Lib.hid (HBr.out.next hb)
            replace BB := Lib.hid (Below.andThen BB.out hb)
            obtain ⟨oW, cW, rfl, -, -, -, hsl⟩ := ho.form; have SW := Lib.hid hsl; clear ho hsl; rw [HYL.out]
            clear hb
            go_wp2_with fail
            with_reducible refine Calls.mono (CS.out _ _ _ _ (by omega) SW.out HW.out) ?_
            rintro e w12 ⟨rfl, hb⟩
            replace HBr := Lib.hid (HBr.out.next hb)
            clear hb
            go_wp2_with fail
            go_roundw
            case rel => exact ⟨i + 1, by go_num, by omega, HBr.out⟩
            case measure => simp [intOf]; omega
        · obtain rfl : i = NZ := by omega
          go_wp2_with fail
          go_ret
          exact ⟨rfl, BB.out⟩
    | false =>
      rw [hw] at CIt
      obtain rfl : Y = s :: r := HY.out.symm.trans (behind_not hw)
      clear hw
      go_wp2_with fail
      with_reducible refine Calls.mono (CIt.out _ (by rfl) _ HT.out) ?_
      rintro e w5 ⟨rfl, hb⟩
      have SY := Lib.hid (SX.out.next hb)
      replace HT := Lib.hid (HT.out.next hb)
      replace SA := Lib.hid (SA.out.next hb)
      replace SH := Lib.hid (SH.out.next hb)
      replace BB := Lib.hid (Below.andThen BB.out hb)
      have HNY := HN'
      have ncY := Lib.hid ncX
      clear hb k0
      obtain ⟨oY, hoY⟩ : ∃ oY, (some ⟨b1, f1, none⟩ : Option Addr) = oY := ⟨_, rfl⟩
      obtain ⟨NY, hNY⟩ : ∃ NY, n' = NY := ⟨_, rfl⟩
      obtain ⟨cY, hcY⟩ : ∃ cY, cX = cY := ⟨_, rfl⟩
      obtain ⟨Y, hYY⟩ : ∃ Y, s :: r = Y := ⟨_, rfl⟩
      rw [hoY] at SY ncY ⊢
      rw [hNY] at HNY ⊢
      rw [hcY] at ncY ⊢
      rw [hYY] at HNY SY YS PFY XZ XL HY
      clear hoY hNY hcY hYY
      have LH := HL.out
      have LA2 := LA.out.2
      have LY : NY ≤ 10 := by have := YS.out.1; have := XL.out; have := HNY.out; omega
      have gT := Lib.hid (show (none : Option Addr) = none from rfl)
      go_upto_region 16 with (at_builtin; first
        | (refine wpList_append_strs rfl _ _ rfl rfl w5.heap.size (.slice (some ⟨w5.heap.size, 0, none⟩) 0 0) [] rfl (made_own w5 [] (Nat.le_refl _) rfl rfl (by decide)) oH H.length cH H rfl rfl ncH (SH.out.next ((Below.refl _ _).alloc (Nat.le_refl _) _)) (by simp; omega) (by simp) ?_; intro V1 w6 ho hg; have HO := Lib.hid ho; have HB6 := Lib.hid (grown_below (Below.refl w5.heap.size w5) hg (made_own w5 [] (Nat.le_refl _) rfl rfl (by decide)).block); clear ho hg)
        | (refine wpList_append_strs rfl _ _ rfl rfl w5.heap.size V1 ([] ++ H) rfl HO.out oA A.length cA A rfl rfl ncA (SA.out.next HB6.out) (by simp; omega) HB6.out.size ?_; intro V2 w7 ho hg; have HO2 := Lib.hid ho; have HB7 := Lib.hid (HB6.out.grown hg HB6.out.size HO.out.block); clear ho hg)
        | (refine wpList_append_strs rfl _ _ rfl rfl w5.heap.size V2 ([] ++ H ++ A) rfl HO2.out oY NY cY Y rfl HNY.out ncY.out (SY.out.next HB7.out) (by simp; omega) HB7.out.size ?_; intro V3 w8 ho hg; have HO3 := Lib.hid ho; have HB8 := Lib.hid (HB7.out.grown hg HB7.out.size HO2.out.block); clear ho hg))
      obtain ⟨Z, hZ⟩ : ∃ Z, [] ++ H ++ A ++ Y = Z := ⟨_, rfl⟩
      rw [hZ] at HO3
      have hZ2 : H ++ A ++ Y = Z := by rw [← hZ]; simp
      have hZn : Z.length = H.length + A.length + NY := by rw [← hZ2, List.length_append, List.length_append, HNY.out]
      have ZS := Lib.hid (show ∀ s ∈ Z, s.length ≤ 100 from by
        intro s hs
        rw [← hZ2] at hs
        rcases List.mem_append.1 hs with h | h
        · rcases List.mem_append.1 h with h | h
          · have := HZ.out s h; omega
          · exact WA.out s h
        · have := XZ.out s (YS.out.2 s h); omega)
      rw [hZ2] at PFY
      obtain ⟨zk, hzk⟩ : ∃ zk, Z.length = zk + 1 := ⟨Z.length - 1, by have := LA.out.1; omega⟩
      have hown := HO3.out
      obtain ⟨gZ, cZ, rfl, hg0, hgl, -⟩ := hown.some hzk
      obtain ⟨o8, c8, e8, hc1, hc2, -, hsl⟩ := hown.form
      obtain ⟨e81, -, e83⟩ := Value.slice.inj e8
      subst e81
      subst e83
      obtain ⟨NZ, hNZ⟩ : ∃ NZ, zk + 1 = NZ := ⟨_, rfl⟩
      have HW := Lib.hid (show Ws w8 (some ⟨gZ, 0, none⟩) NZ cZ Z from ⟨hsl, hzk.trans hNZ, fun e => by rw [e] at hzk; simp at hzk, by omega, by omega, hc2, fun s hs => Nat.le_trans (ZS.out s hs) (by decide)⟩)
      have ZN := Lib.hid (hzk.trans hNZ)
      have hHN : H.length < NZ := by have := LA.out.1; omega
      have hcap : NZ ≤ cZ := by omega
      have hN40 : NZ ≤ 40 := by omega
      rw [hNZ]
      replace HT := Lib.hid (HT.out.next HB8.out)
      replace BB := Lib.hid (Below.andThen BB.out HB8.out)
      have CPH := Lib.hid (fun L hL W T HH => CP.out H.length gZ NZ cZ Z L hL W T hHN HH)
      rw [PFY.out] at CPH
      unfold preV at CPH
      clear hown hsl hZ hZ2 HO HO2 HO3 hc1 hNZ hzk hZn SA SH SY HB6 HB7 HB8 gT
      go_wp2_with fail
      with_reducible refine Calls.mono (CPH.out _ (by rfl) _ HT.out HW.out) ?_
      rintro e w9 ⟨rfl, hb⟩
      replace HT := Lib.hid (HT.out.next hb)
      replace HW := Lib.hid (HW.out.next hb)
      replace BB := Lib.hid (Below.andThen BB.out hb)
      clear hb
      go_wp2_with fail
      have HT9 := HT
      have HW9 := HW
      have BB9 := BB
      go_loopw [21] (fun iv wr => ∃ i : Nat, iv = .int .i64 i ∧ i ≤ NZ ∧ Below w9.heap.size w9 wr) (fun iv _ => NZ - (intOf iv).toNat)
      case atStart => exact ⟨0, rfl, Nat.zero_le _, Below.refl _ _⟩
      case round =>
        obtain ⟨i, rfl, hi, hB⟩ := hrel
        replace HT := Lib.hid (HT9.out.next hB)
        replace HW := Lib.hid (HW9.out.next hB)
        replace BB := Lib.hid (Below.andThen BB9.out hB)
        have HBr := Lib.hid (show Since w9 _ from hB)
        clear hB
        by_cases hlt : i < NZ
        · have CPi := Lib.hid (fun L hL W T HH => CP.out i gZ NZ cZ Z L hL W T hlt HH)
          cases hpr : pre k Z i with
          | none =>
            rw [hpr] at CPi
            unfold preV at CPi
            clear hpr
            go_wp2_with fail
            with_reducible refine Calls.mono (CPi.out _ (by rfl) _ HT.out HW.out) ?_
            rintro e w10 ⟨rfl, hb⟩
            replace HT := Lib.hid (HT.out.next hb)
            replace HW := Lib.hid (HW.out.next hb)
            replace HBr := Lib.hid (HBr.out.next hb)
            replace BB := Lib.hid (Below.andThen BB.out hb)
            clear hb
            go_wp2_with fail
            go_roundw
            case rel => exact ⟨i + 1, by go_num, by omega, HBr.out⟩
            case measure => simp [intOf]; omega
          | some xy =>
            obtain ⟨x, y⟩ := xy
            rw [hpr] at CPi
            unfold preV at CPi
            obtain ⟨hy1, hiy, hx6, hwx⟩ := PI.out Z i x y hpr
            rw [ZN.out] at hiy
            have CWx := Lib.hid (fun L hL W T => CW.out x hx6 x rfl L hL W T)
            rw [hwx] at CWx
            have CS := Lib.hid (fun W oW cW (of : Nat) (hof : of = 0 + i) (h1 : SSl W oW ((Z.drop i).take y)) (HH : Ws W (some ⟨gZ, 0, none⟩) NZ cZ Z) => (show Calls Tryd.prog 18 #[.slice oW y cW, .slice (some ⟨gZ, of, none⟩) y (cZ - i)] W fun e w' => e = .returned (.bool true) ∧ Below W.heap.size W w' from by
              have hyl : ((Z.drop i).take y).length = y := by rw [List.length_take, List.length_drop, ZN.out]; omega
              subst hof
              have h := Same_any oW (some ⟨gZ, 0 + i, none⟩) y cW y (cZ - i) ((Z.drop i).take y) ((Z.drop i).take y) W hyl hyl (by omega) (by omega) h1 ((HH.sl.drop i).take y)
              rw [decide_eq_true rfl] at h
              exact h))
            have HYL := Lib.hid (show ((Z.drop i).take y).length = y from by rw [List.length_take, List.length_drop, ZN.out]; omega)
            generalize (Z.drop i).take y = R at *
            have d1 : ¬ (y : Int) < 1 := by omega
            have d2 : ¬ (NZ : Int) < i + y := by omega
            have d3 : ¬ (cZ : Int) = i := by omega
            clear hpr hwx
            go_wp2_with fail
            with_reducible refine Calls.mono (CPi.out _ (by rfl) _ HT.out HW.out) ?_
            rintro e w10 ⟨rfl, hb⟩
            replace HT := Lib.hid (HT.out.next hb)
            replace HW := Lib.hid (HW.out.next hb)
            replace HBr := Lib.hid (HBr.out.next hb)
            replace BB := Lib.hid (Below.andThen BB.out hb)
            clear hb
            go_wp2_with fail
            with_reducible refine Calls.mono (CWx.out _ (by rfl) _ HT.out) ?_
            rintro e w11 ⟨v, rfl, ho, hb⟩
            replace HT := Lib.hid (HT.out.next hb)
            replace HW := Lib.hid (HW.out.next hb)
            replace HBr := Lib.hid (HBr.out.next hb)
            replace BB := Lib.hid (Below.andThen BB.out hb)
            obtain ⟨oW, cW, rfl, -, -, -, hsl⟩ := ho.form; have SW := Lib.hid hsl; clear ho hsl; rw [HYL.out]
            clear hb
            go_wp2_with fail
            with_reducible refine Calls.mono (CS.out _ _ _ _ (by omega) SW.out HW.out) ?_
            rintro e w12 ⟨rfl, hb⟩
            replace HBr := Lib.hid (HBr.out.next hb)
            clear hb
            go_wp2_with fail
            go_roundw
            case rel => exact ⟨i + 1, by go_num, by omega, HBr.out⟩
            case measure => simp [intOf]; omega
        · obtain rfl : i = NZ := by omega
          go_wp2_with fail
          go_ret
          exact ⟨rfl, BB.out⟩
namespace wordInText
set_option maxRecDepth 100000 in
theorem contract (H : Type) (enc : TypeId × Value → H) (W : World) (base : Nat) (args : Array Value) (ds gs : List (DataW H)) (before : List MemPlace)
    (hval : ∀ (j : Nat) t v, Tryd.f6.params[j]? = some t → args[j]? = some v → Value.okWide Tryd.prog W .any base t v)
    (hW : DataW.Whole enc Tryd.prog Tryd.f6.params.toList Rows.wordInTextSpec.vars false W args.toList ds gs before) (hL : laidMetH Tryd.prog Rows.wordInTextRow.laid W) (hsh : W.ShapedOpen Tryd.prog) :
    Calls Tryd.prog 6 args W fun e W' => ∃ v, e = .returned v ∧ Rows.wordInTextSpec.post enc Tryd.prog Tryd.f6 false true false false W args v W' := by
  have hW' := hW
  obtain ⟨p, q, hA0, hV, rfl, hfz, hnd⟩ := hW
  have hA : DataW.TrodAll enc Tryd.prog W 0 (fun _ => true) true Tryd.f6.params.toList args.toList ds p := hA0
  rw [Tryd.params6] at hA hval
  obtain ⟨v0, vs0, d0, ds0, p0, q0, hargs, rfl, rfl, h0, r0⟩ := trodAll_cons hA
  obtain ⟨v1, vs1, d1, ds1, p1, q1, rfl, rfl, rfl, h1, r1⟩ := trodAll_cons r0
  obtain ⟨v2, vs2, d2, ds2, p2, q2, rfl, rfl, rfl, h2, r2⟩ := trodAll_cons r1
  obtain ⟨v3, vs3, d3, ds3, p3, q3, rfl, rfl, rfl, h3, r3⟩ := trodAll_cons r2
  obtain ⟨rfl, rfl, rfl⟩ := trodAll_nil r3
  obtain rfl : args = #[v0, v1, v2, v3] := by cases args; simp_all
  obtain ⟨a0, rfl, rfl, rfl, k0⟩ := open_int Tryd.underlying3 (hval 0 _ _ rfl rfl) h0
  obtain ⟨a1, rfl, rfl, rfl, k1⟩ := open_int Tryd.underlying3 (hval 1 _ _ rfl rfl) h1
  obtain ⟨oa2, la2, ca2, a2, rfl, ma2, k2, ga2⟩ := open_strS Tryd.underlying25 Tryd.underlying9 (by kernel_rfl) (hval 2 _ _ rfl rfl) h2
  obtain ⟨oa3, la3, ca3, a3, rfl, ma3, k3, ga3⟩ := open_strS Tryd.underlying25 Tryd.underlying9 (by kernel_rfl) (hval 3 _ _ rfl rfl) h3
  refine (wordInText_law a0 a1 oa2 la2 ca2 a2 oa3 la3 ca3 a3 W (wordT hL hsh) (bd_i64 k0) (bd_i64 k1) ma2 k2 ga2 ma3 k3 ga3).mono fun e W' ⟨he, hb⟩ => ?_
  subst he
  obtain ⟨rfl, _⟩ := trodVars_none hV
  exact ⟨_, rfl, law_post laidOut (by kernel_rfl) rfl (by kernel_rfl) Tryd.underlying4 hW' rfl hb⟩

noncomputable def laidWorld (os : Os) : World := World.laidAll Tryd.prog os Rows.wordInTextRow.laid
def args0 : Array Value := #[.int .i64 0, .int .i64 0, .slice none 0 0, .slice none 0 0]
theorem laid_met (os : Os) : laidMet Tryd.prog Rows.wordInTextRow.laid ((laidWorld os).forCall (fun _ _ => 0) ⟨#[], args0, []⟩).memory :=
  laidMet_laidAll _ (by kernel_rfl) (by kernel_rfl)
theorem reads (os : Os) {H : Type} (enc : TypeId × Value → H) : ∃ places, DataW.whole enc Tryd.prog ((laidWorld os).forCall (fun _ _ => 0) ⟨#[], args0, []⟩).memory Tryd.f6.params.toList Rows.wordInTextSpec.vars false args0.toList 8 = some ([.lit (.int .i64 0), .lit (.int .i64 0), .nil, .nil], [], places) :=
  ⟨[], by kernel_rfl⟩

set_option maxRecDepth 100000 in
theorem lifted (os : Os) (started : os.Started) (H : Type) (enc : TypeId × Value → H) (F : Stop.Interp) :
    ReturnsInHanded {} Tryd.checked os 6 .any ((OpenSpec.ofChange Rows.wordInTextSpec).preRow enc Tryd.prog Tryd.f6 Rows.wordInTextRow.domain false Rows.wordInTextRow.laid) (((OpenSpec.ofChange Rows.wordInTextSpec).at F).post enc Tryd.prog Tryd.f6 false true false false) := by
  obtain ⟨places, hx⟩ := reads os enc
  refine returnsInHanded_of_row (C := Tryd.checked) (s := OpenSpec.ofChange Rows.wordInTextSpec) own started (by kernel_rfl) Tryd.func6
    (witness_row_at (enc := enc) (C := Tryd.checked) false (laidWorld os) args0 (World.laidAll_os _ _ _) (by kernel_rfl) (by kernel_rfl) (by kernel_rfl)
      (OpenSpec.preRow_of_cond 8 hx (by kernel_rfl) (fun k hk => by cases hk) (by kernel_rfl) (laid_met os))) ?_
  intro W base args ds gs before hval hW _ _ _ hL hsh _
  exact contract H enc W base args ds gs before hval hW hL hsh

theorem said : Rows.WordInTextSaid :=
  OpenClaim.holds_of_cond 6 Tryd.f6 rfl rfl rfl rfl rfl rfl rfl ⟨rfl, rfl, rfl, rfl, rfl⟩ rfl rfl rfl rfl rfl (by kernel_rfl) Tryd.func6 (by kernel_rfl)
    (of_decide_eq_true (by kernel_rfl)) (by unfold Func.isWrapper; first | (rw [if_pos (by decide +kernel)]; kernel_rfl) | (rw [if_neg (by decide +kernel)]; exact ⟨rfl, rfl⟩))
    (fun os started H enc _ F => by rw [OpenClaim.pre_eq_preRow]; exact lifted os started H enc F)

theorem plain (f : FuncId) (fn : Func) (hf : Tryd.pinned.checked.prog.funcNamed "newswire/newswirelaw11.WordInText" = some f) (hfn : Tryd.pinned.checked.prog.funcs[f]? = some fn) :
    false = Tryd.pinned.checked.prog.looks [] ∧ ∀ (j : Nat) t, fn.params[j]? = some t → Tryd.pinned.checked.prog.wantsStandIn t = false := by
  obtain rfl : f = 6 := Option.some.inj ((show Tryd.prog.funcNamed "newswire/newswirelaw11.WordInText" = some 6 by kernel_rfl).symm.trans hf) |>.symm
  obtain rfl : fn = Tryd.f6 := (Option.some.inj (Tryd.func6.symm.trans hfn)).symm
  refine ⟨by kernel_rfl, fun j t ht => ?_⟩
  have all : (Tryd.f6.params.toList.all fun t => Tryd.prog.wantsStandIn t == false) = true := by kernel_rfl
  have := List.all_eq_true.1 all t (by rw [← Array.mem_def]; exact Array.mem_of_getElem? ht)
  exact (show Tryd.prog.wantsStandIn t = false by simpa using this)

/-- The statement. -/
theorem card : Rows.WordInTextCardSaid :=
  Claim7.holds_tied_plain_at .later [] _ _ _ _ said (fun _ h => by cases h) (by kernel_rfl) (fun _ h => by cases h) wordInText_row_tie rfl ⟨rfl, rfl⟩ (by kernel_rfl) rfl plain (by kernel_rfl)
end wordInText
end Go.Proofs.YtebdpdmkehfgfaaDoor
