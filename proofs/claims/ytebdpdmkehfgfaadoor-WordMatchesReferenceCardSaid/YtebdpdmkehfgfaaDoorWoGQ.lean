/- The reference's Is. -/
/- The reference's Is in one language. -/
/- The reference's Is in one language. -/
/- The reference's Is in one language. -/
/- The reference's Is at any input. -/
import Derived.Test.YtebdpdmkehfgfaaDoorWoRO
import Derived.Test.YtebdpdmkehfgfaaDoorWoV
import Derived.BigQuiet
set_option linter.unusedVariables false
set_option linter.unusedSimpArgs false
namespace Go.Proofs.YtebdpdmkehfgfaaDoor
open Go.RowKit
namespace Wo
set_option maxRecDepth 100000 in
theorem rIs_no (L : Int) (s : ByteArray) (w : World) (h : ¬ okL L) : Calls Tryd.prog 24 #[.int .i64 L, .string s] w fun e w' => e = .returned (.bool false) ∧ Below w.heap.size w w' := by
  by_cases l1 : L < 1
  · clear h
    go_enter Tryd.func24, Tryd.ntmps24
    go_wp2_with fail
    go_ret
    exact ⟨rfl, Below.refl _ _⟩
  · have l2 : 3 < L := by
      rcases Int.lt_or_le 3 L with h1 | h1
      · exact h1
      · exact absurd ⟨by omega, h1⟩ h
    clear h
    go_enter Tryd.func24, Tryd.ntmps24
    go_wp2_with fail
    go_ret
    exact ⟨rfl, Below.refl _ _⟩
/-- does 'hundert' stand in a text at a place before i? -/
def hasTo (s : B) (i : Nat) : Bool := (List.range i).any fun j => hundert.isPrefixOf (s.drop j)
theorem hasTo_succ (s : B) (i : Nat) : hasTo s (i + 1) = (hasTo s i || hundert.isPrefixOf (s.drop i)) := by
  unfold hasTo
  rw [List.range_succ, List.any_append]
  simp
theorem hundert_len {s : B} {j : Nat} (h : hundert.isPrefixOf (s.drop j) = true) : j + 7 ≤ s.length := by
  obtain ⟨t, ht⟩ := List.isPrefixOf_iff_prefix.1 h
  have h2 := congrArg List.length ht
  rw [List.length_append, List.length_drop, show hundert.length = 7 from rfl] at h2
  omega
theorem hasTo_all {s : B} {i : Nat} (h1 : i ≤ s.length) (h : s.length < i + 7) : hasTo s i = hasH s := by
  rw [Bool.eq_iff_iff]
  unfold hasTo hasH
  rw [List.any_eq_true, List.any_eq_true]
  constructor
  · rintro ⟨j, hj, e⟩
    exact ⟨j, List.mem_range.2 (by have := List.mem_range.1 hj; omega), e⟩
  · rintro ⟨j, hj, e⟩
    exact ⟨j, List.mem_range.2 (by have := hundert_len e; omega), e⟩
theorem hundert_at {s : B} {i : Nat} : (((bs s).extract i (i + 7)).toList == [104, 117, 110, 100, 101, 114, 116]) = hundert.isPrefixOf (s.drop i) := by
  rw [Lib.extract_toList, Bool.eq_iff_iff, beq_iff_eq, List.isPrefixOf_iff_prefix, Nat.add_sub_cancel_left, show (bs s).data.toList = s from rfl]
  show (s.drop i).take 7 = hundert ↔ _
  constructor
  · intro h
    exact ⟨(s.drop i).drop 7, by rw [← h, List.take_append_drop]⟩
  · rintro ⟨t, e⟩
    rw [← e]
    rfl
theorem take_contains {l : B} {i : Nat} {x c : UInt8} (h : l[i]? = some x) : (l.take (i + 1)).contains c = ((l.take i).contains c || decide (x = c)) := by
  rw [List.take_add_one, h, Bool.eq_iff_iff]
  show ((l.take i ++ [x]).contains c = true) ↔ _
  rw [List.contains_iff_mem, List.mem_append, Bool.or_eq_true_iff, List.contains_iff_mem, decide_eq_true_iff, List.mem_singleton]
  exact or_congr Iff.rfl eq_comm
end Wo
end Go.Proofs.YtebdpdmkehfgfaaDoor
set_option linter.unusedVariables false
set_option linter.unusedSimpArgs false
namespace Go.Proofs.YtebdpdmkehfgfaaDoor
open Go.RowKit
namespace Wo
set_option maxRecDepth 100000 in
set_option maxHeartbeats 8000000 in
theorem rIs_yes0 (s : B) (w : World) (hs : s.length ≤ 1000000) : Calls Tryd.prog 24 #[.int .i64 1, .string (bs s)] w fun e w' => e = .returned (.bool (isW 0 s)) ∧ Below w.heap.size w w' := by
  obtain ⟨D, hD⟩ : ∃ D, isW 0 s = D := ⟨_, rfl⟩
  cases s with
  | nil =>
    have HF := Lib.hid (show D = false from by
      rw [← hD]
      cases h : isW 0 [] with
      | false => rfl
      | true => exact absurd ((rIs_iff (by decide) []).1 h).1 (by simp [firstB]))
    rw [hD]
    clear hD
    rw [HF.out]
    have HB0 := Lib.hid (show bs [] = ({ data := #[] } : ByteArray) from rfl)
    rw [HB0.out]
    go_enter Tryd.func24, Tryd.ntmps24
    go_wp2_with fail
    go_loopw [6, 7] (fun bv iv wr => bv = .bool false ∧ iv = .int .i64 0 ∧ Below w.heap.size w wr) (fun _ iv _ => 8 - (intOf iv).toNat)
    case atStart => exact ⟨rfl, rfl, (Below.refl _ _).alloc (Nat.le_refl _) _⟩
    case round =>
      obtain ⟨rfl, rfl, hB⟩ := hrel
      have BB := Lib.hid hB
      clear hB
      go_wp2_with fail
      go_ret
      exact ⟨rfl, BB.out⟩
  | cons c r =>
    have HD := Lib.hid hD
    rw [hD]
    clear hD
    have HI := Lib.hid (fun w => run_index_bs w (c :: r) 0 c rfl)
    have hne : ¬ bs (c :: r) = ({ data := #[] } : ByteArray) := fun e => by
      have := congrArg ByteArray.size e
      rw [bs_size, List.length_cons] at this
      exact absurd this (Nat.succ_ne_zero _)
    have HNE := Lib.hid hne
    have hemp : (bs (c :: r)).toList.isEmpty = false := by rw [ByteArray.toList_eq, bs_list]; rfl
    obtain ⟨F, hF⟩ : ∃ F, bs (firsts 0) = F := ⟨_, rfl⟩
    have HFX := Lib.hid (fun i (hi : i < 8) w => by
      have h := run_index_bs w (firsts 0) i ((firsts 0).getD i 0) (by rw [List.getD_eq_getElem?_getD, List.getElem?_eq_getElem (show i < (firsts 0).length from hi), Option.getD_some])
      rw [hF] at h
      exact h)
    have HFS := Lib.hid (show F.size = 8 from by rw [← hF]; rfl)
    have HF := Lib.hid hF
    have HS6 := Lib.hid (show (bs (c :: r)).size ≤ 1000000 from by rw [bs_size]; exact hs)
    have HCM := Lib.hid (fun z => beq_bs (c :: r) z)
    have HCM2 := Lib.hid (fun z => beq_bs z (c :: r))
    have HSL := Lib.hid (show (bs (c :: r)).size = (c :: r).length from bs_size _)
    have HEX := Lib.hid (fun i => hundert_at (s := c :: r) (i := i))
    generalize bs (c :: r) = S at *
    clear hF
    go_enter Tryd.func24, Tryd.ntmps24
    go_wp2_with fail
    rw [show ({ data := #[101, 102, 104, 110, 111, 115, 116, 122] } : ByteArray) = F from HF.out]
    have hF8 := HFS.out
    go_loopw [6, 7] (fun bv iv wr => ∃ i : Nat, iv = .int .i64 i ∧ i ≤ 8 ∧ bv = .bool (((firsts 0).take i).contains c) ∧ Below w.heap.size w wr) (fun _ iv _ => 8 - (intOf iv).toNat)
    case atStart => exact ⟨0, rfl, by decide, rfl, (Below.refl _ _).alloc (Nat.le_refl _) _⟩
    case round =>
      obtain ⟨i, rfl, hi, rfl, hB⟩ := hrel
      have BB := Lib.hid hB
      clear hB
      obtain ⟨G, hG⟩ : ∃ G, ((firsts 0).take i).contains c = G := ⟨_, rfl⟩
      rw [hG]
      by_cases hlt : i < 8
      · have hx : (firsts 0)[i]? = some ((firsts 0).getD i 0) := by rw [List.getD_eq_getElem?_getD, List.getElem?_eq_getElem (show i < (firsts 0).length from hlt), Option.getD_some]
        have HT := Lib.hid (take_contains (c := c) hx)
        rw [hG] at HT
        have hr0 := HI.out
        simp only [show ((0 : Nat) : Int) = 0 from rfl] at hr0
        have hr1 := HFX.out i hlt
        generalize (firsts 0).getD i 0 = x at *
        clear hx hG
        cases G with
        | true =>
          go_upto_region 8 with (fail)
          go_quiet (fail)
          go_wp2_with fail
          go_roundw
          case rel => exact ⟨i + 1, by go_num, by omega, by rw [HT.out]; rfl, by first | exact BB.out | exact below_drewN BB.out _⟩
          case measure => simp [intOf]; omega
        | false =>
          obtain ⟨E, hE⟩ : ∃ E, decide (x = c) = E := ⟨_, rfl⟩
          have hxb : ((x.toNat : Int) == c.toNat) = E := by
            rw [← hE, Bool.eq_iff_iff, beq_iff_eq, decide_eq_true_iff]
            exact ⟨fun e => UInt8.toNat_inj.1 (by omega), fun e => by rw [e]⟩
          rw [hE] at HT
          clear hE
          go_upto_region 8 with (fail)
          go_quiet (fail)
          go_wp2_with fail
          go_roundw
          case rel => exact ⟨i + 1, by go_num, by omega, by rw [HT.out]; first | rfl | exact congrArg Value.bool ((Bool.false_or E).symm), by first | exact BB.out | exact below_drewN BB.out _⟩
          case measure => simp [intOf]; omega
      · obtain rfl : i = 8 := by omega
        have hG2 : firstB 0 (c :: r) = G := hG
        cases G with
        | false =>
          have HE := Lib.hid (show D = false from by
            rw [← HD.out]
            cases h : isW 0 (c :: r) with
            | false => rfl
            | true =>
              have h2 := ((rIs_iff (by decide) (c :: r)).1 h).1
              rw [hG2] at h2
              cases h2)
          clear hG hG2
          go_wp2_with fail
          go_ret
          exact ⟨by rw [HE.out]; rfl, BB.out⟩
        | true =>
          have HG2 := Lib.hid hG2
          have HDD := Lib.hid (show D = true ↔ ((c :: r) ∈ words 0 0 ∨ Fd 0 (c :: r) 1000) from by
            rw [← HD.out, rIs_iff (by decide), hG2]
            exact ⟨fun h => h.2, fun h => ⟨rfl, h⟩⟩)
          have HS0 := Lib.hid (show (c :: r) ∈ words 0 0 ↔ (c :: r) = (ones 0).getD 0 [] from List.mem_singleton)
          clear hG hG2
          have CU := Lib.hid (fun W => runits 0 1 (by decide) rfl W)
          have LO := Lib.hid (ones_len (k := 0) (by decide))
          have hcmp := HCM.out ((ones 0).getD 0 [])
          obtain ⟨z, hz⟩ : ∃ z, (ones 0).getD 0 [] = z := ⟨_, rfl⟩
          rw [hz] at hcmp HS0
          have HZ := Lib.hid hz
          obtain ⟨E, hE⟩ : ∃ E, decide ((c :: r) = z) = E := ⟨_, rfl⟩
          rw [hE] at hcmp
          have HEE := Lib.hid hE
          clear hE hz
          go_wp2_with fail
          with_reducible refine Calls.mono (CU.out _) ?_
          rintro e w3 ⟨bu, rfl, hS, hb⟩
          obtain ⟨hlu, hcu⟩ := ssl_at hS (i := 0) (by rw [LO.out]; decide)
          rw [HZ.out] at hcu
          have BB3 := Lib.hid (Below.andThen BB.out hb)
          clear hb hS
          cases E with
          | true =>
            have HE := Lib.hid (show D = true from HDD.out.2 (.inl (HS0.out.2 (of_decide_eq_true HEE.out))))
            go_wp2_with fail
            go_ret
            exact ⟨by rw [HE.out]; rfl, BB3.out⟩
          | false =>
            have HDE := Lib.hid (show D = true ↔ Fd 0 (c :: r) 1000 from HDD.out.trans ⟨fun h => h.resolve_left (fun h => absurd (HS0.out.1 h) (of_decide_eq_false HEE.out)), .inr⟩)
            clear HDD HS0
            go_wp2_with fail
            clear hF8 hlt hcu hcmp CU LO HZ HEE
            go_loopw [8, 9] (fun lv iv wx => ∃ i : Nat, iv = .int .i64 i ∧ (i = 0 ∨ i + 6 ≤ S.size) ∧ lv = .bool (hasTo (c :: r) i) ∧ Below w3.heap.size w3 wx) (fun _ iv _ => S.size - (intOf iv).toNat)
            case atStart => exact ⟨0, rfl, .inl rfl, rfl, Below.refl _ _⟩
            case round =>
              obtain ⟨i, rfl, hi, rfl, hB⟩ := hrel
              have BB4 := Lib.hid (Below.andThen BB3.out hB)
              have BBr := Lib.hid hB
              clear hB
              obtain ⟨G, hG⟩ : ∃ G, hasTo (c :: r) i = G := ⟨_, rfl⟩
              rw [hG]
              have hS6 := HS6.out
              by_cases hlt : i + 7 ≤ S.size
              · have hlti : (i : Int) + 7 ≤ S.size := by omega
                have HT := Lib.hid (hasTo_succ (c :: r) i)
                rw [hG] at HT
                clear hG
                obtain ⟨P, hP⟩ : ∃ P, hundert.isPrefixOf ((c :: r).drop i) = P := ⟨_, rfl⟩
                have hext := (HEX.out i).trans hP
                rw [hP] at HT
                clear hP
                cases G with
                | true =>
                  go_wp2_with fail
                  go_roundw
                  case rel => exact ⟨i + 1, by go_num, .inr (by omega), by rw [HT.out]; rfl, BBr.out⟩
                  case measure => simp [intOf]; omega
                | false =>
                  go_wp2_with fail
                  go_roundw
                  case rel => exact ⟨i + 1, by go_num, .inr (by omega), by rw [HT.out]; exact congrArg Value.bool (Bool.false_or P).symm, BBr.out⟩
                  case measure => simp [intOf]; omega
              · have hlti : ¬ (i : Int) + 7 ≤ S.size := by omega
                have HH := Lib.hid (show hasH (c :: r) = G from by rw [← hG]; exact (hasTo_all (by rcases hi with rfl | h <;> first | exact Nat.zero_le _ | (have := HSL.out; omega)) (by have := HSL.out; omega)).symm)
                clear hG
                go_wp2_with fail
                go_loopw [10] (fun nv wx => ∃ n : Nat, nv = .int .i64 n ∧ 1 ≤ n ∧ n ≤ 1000 ∧ ¬ Fd 0 (c :: r) n ∧ Below w.heap.size w wx) (fun nv _ => 1000 - (intOf nv).toNat)
                case atStart => exact ⟨1, rfl, Nat.le_refl _, by decide, fd_zero 0 _, BB4.out⟩
                case round =>
                  obtain ⟨n, rfl, hn1, hn9, hfd, hB⟩ := hrel
                  have BB5 := Lib.hid hB
                  have HFD := Lib.hid hfd
                  clear hB hfd
                  by_cases hn : n < 1000
                  · have CSm := Lib.hid (fun W => rsmall_any 0 1 (by decide) rfl n true n rfl hn1 hn W)
                    rw [(r_small (k := 0) (by decide) hn hn1).1] at CSm
                    have CT := Lib.hid (fun W => rthousand_any 0 1 (by decide) rfl n n rfl hn1 hn W)
                    rw [(r_small (k := 0) (by decide) hn hn1).2] at CT
                    have LR := Lib.hid (words_len 0 (show n < 1000000 by omega))
                    have LT := Lib.hid (words_len 0 (show 1000 * n < 1000000 by omega))
                    have HYS := Lib.hid (fun (ha : asked n = true ∨ G = true) i h => HDE.out.2 (fd_yes (s := c :: r) (i := i) hn1 hn (ha.imp id (fun h => HH.out.trans h)) h))
                    have HNO := Lib.hid (fun h1 h2 => fd_not HFD.out h1 h2)
                    have HSK := Lib.hid (fun h1 h2 => fd_skip HFD.out h1 (HH.out.trans h2))
                    rcases (show (¬ 99 < n) ∨ (99 < n ∧ ¬ 1 < n % 100) ∨ (99 < n ∧ 1 < n % 100) by omega) with q1 | ⟨q1, q2⟩ | ⟨q1, q2⟩
                    · have q1i : ¬ (99 : Int) < n := by omega
                      have HA := Lib.hid (HYS.out (.inl (asked_yes (.inl (by omega)))))
                      clear HYS HSK
                      go_wp2_with fail
                      with_reducible refine Calls.mono (CSm.out _) ?_
                      rintro e w4 ⟨v, rfl, ho, hb⟩
                      obtain ⟨oR, cR, rfl, -, -, -, hsl⟩ := ho.form
                      have SR := Lib.hid hsl
                      have BB6 := Lib.hid (Below.andThen BB5.out hb)
                      clear ho hb hsl
                      go_wp2_with fail
                      with_reducible refine Calls.mono (CT.out _) ?_
                      rintro e w5 ⟨v, rfl, ho, hb⟩
                      obtain ⟨oT, cT, rfl, -, -, -, hsl⟩ := ho.form
                      obtain ⟨bR, fR, rfl, lR, hcR⟩ := (SR.out.next hb).cells (fun h => by have := LR.out.1; rw [h] at this; simp at this)
                      obtain ⟨bT, fT, rfl, lT, hcT⟩ := hsl.cells (fun h => by have := LT.out.1; rw [h] at this; simp at this)
                      have BB7 := Lib.hid (Below.andThen BB6.out hb)
                      have CR2 := Lib.hid (fun (W : World) (h : Below w5.heap.size w5 W) i (hi : i < (words 0 n).length) => (show W.cell? ⟨bR, fR + i, none⟩ = some (sV ((words 0 n).getD i [])) from (h.cell (p := ⟨bR, fR + i, none⟩) lR).trans (hcR i _ (by rw [List.getD_eq_getElem?_getD, List.getElem?_eq_getElem hi]; rfl))))
                      have CT2 := Lib.hid (fun (W : World) (h : Below w5.heap.size w5 W) i (hi : i < (words 0 (1000 * n)).length) => (show W.cell? ⟨bT, fT + i, none⟩ = some (sV ((words 0 (1000 * n)).getD i [])) from (h.cell (p := ⟨bT, fT + i, none⟩) lT).trans (hcT i _ (by rw [List.getD_eq_getElem?_getD, List.getElem?_eq_getElem hi]; rfl))))
                      have LR1 := LR.out.2
                      have LT1 := LT.out.2
                      clear ho hb hsl SR hcR hcT LR LT CSm CT BB5 BB6
                      generalize words 0 n = R at *
                      generalize words 0 (1000 * n) = T at *
                      go_wp2_with fail
                      go_loopw [13] (fun jv wx => ∃ i : Nat, jv = .int .i64 i ∧ i ≤ R.length ∧ (∀ i', i' < i → R.getD i' [] ≠ c :: r) ∧ Below w5.heap.size w5 wx) (fun jv _ => R.length - (intOf jv).toNat)
                      case atStart => exact ⟨0, rfl, Nat.zero_le _, fun i' h => absurd h (Nat.not_lt_zero _), Below.refl _ _⟩
                      case round =>
                        obtain ⟨i, rfl, hi, hno, hB⟩ := hrel
                        have BBr := Lib.hid hB
                        have HN := Lib.hid hno
                        clear hB hno
                        by_cases hlt : i < R.length
                        · have hcx := CR2.out _ BBr.out i hlt
                          have HAx := Lib.hid (fun h => HA.out i (.inl ⟨hlt, h⟩))
                          obtain ⟨z, hz⟩ : ∃ z, R.getD i [] = z := ⟨_, rfl⟩
                          have HZ := Lib.hid hz
                          rw [hz] at hcx HAx
                          have hcmp := HCM2.out z
                          obtain ⟨E, hE⟩ : ∃ E, decide (z = c :: r) = E := ⟨_, rfl⟩
                          rw [hE] at hcmp
                          have HEE := Lib.hid hE
                          clear hE hz
                          cases E with
                          | true =>
                            have HE := Lib.hid (HAx.out (of_decide_eq_true HEE.out))
                            go_wp2_with fail
                            go_ret
                            exact ⟨by rw [HE.out]; rfl, Below.andThen BB7.out BBr.out⟩
                          | false =>
                            go_wp2_with fail
                            go_roundw
                            case rel =>
                              refine ⟨i + 1, by go_num, by omega, fun i' h => ?_, BBr.out⟩
                              rcases Nat.lt_succ_iff_lt_or_eq.1 h with h | rfl
                              · exact HN.out i' h
                              · rw [HZ.out]; exact of_decide_eq_false HEE.out
                            case measure => simp [intOf]; omega
                        · obtain rfl : i = R.length := by omega
                          have HNR := Lib.hid (fun i' (h : i' < R.length) => HN.out i' h)
                          go_wp2_with fail
                          clear HN
                          go_loopw [14] (fun jv wx => ∃ i : Nat, jv = .int .i64 i ∧ i ≤ T.length ∧ (∀ i', i' < i → T.getD i' [] ≠ c :: r) ∧ Below w5.heap.size w5 wx) (fun jv _ => T.length - (intOf jv).toNat)
                          case atStart => exact ⟨0, rfl, Nat.zero_le _, fun i' h => absurd h (Nat.not_lt_zero _), BBr.out⟩
                          case round =>
                            obtain ⟨i, rfl, hi, hno, hB⟩ := hrel
                            have BBr := Lib.hid hB
                            have HN := Lib.hid hno
                            clear hB hno
                            by_cases hlt : i < T.length
                            · have hcx := CT2.out _ BBr.out i hlt
                              have HAx := Lib.hid (fun h => HA.out i (.inr ⟨hlt, h⟩))
                              obtain ⟨z, hz⟩ : ∃ z, T.getD i [] = z := ⟨_, rfl⟩
                              have HZ := Lib.hid hz
                              rw [hz] at hcx HAx
                              have hcmp := HCM2.out z
                              obtain ⟨E, hE⟩ : ∃ E, decide (z = c :: r) = E := ⟨_, rfl⟩
                              rw [hE] at hcmp
                              have HEE := Lib.hid hE
                              clear hE hz
                              cases E with
                              | true =>
                                have HE := Lib.hid (HAx.out (of_decide_eq_true HEE.out))
                                go_wp2_with fail
                                go_ret
                                exact ⟨by rw [HE.out]; rfl, Below.andThen BB7.out BBr.out⟩
                              | false =>
                                go_wp2_with fail
                                go_roundw
                                case rel =>
                                  refine ⟨i + 1, by go_num, by omega, fun i' h => ?_, BBr.out⟩
                                  rcases Nat.lt_succ_iff_lt_or_eq.1 h with h | rfl
                                  · exact HN.out i' h
                                  · rw [HZ.out]; exact of_decide_eq_false HEE.out
                                case measure => simp [intOf]; omega
                            · obtain rfl : i = T.length := by omega
                              go_wp2_with fail
                              go_roundw
                              case rel => exact ⟨n + 1, by go_num, by omega, by omega, HNO.out HNR.out HN.out, Below.andThen BB7.out BBr.out⟩
                              case measure => simp [intOf]; omega
                    · have q1i : (99 : Int) < n := by omega
                      have q2i : ¬ (1 : Int) < (n : Int) % 100 := by omega
                      have q2t : ¬ (1 : Int) < (n : Int).tmod 100 := by rw [Int.tmod_eq_emod_of_nonneg (by omega)]; omega
                      have HA := Lib.hid (HYS.out (.inl (asked_yes (.inr (by omega)))))
                      clear HYS HSK
                      go_wp2_with fail
                      with_reducible refine Calls.mono (CSm.out _) ?_
                      rintro e w4 ⟨v, rfl, ho, hb⟩
                      obtain ⟨oR, cR, rfl, -, -, -, hsl⟩ := ho.form
                      have SR := Lib.hid hsl
                      have BB6 := Lib.hid (Below.andThen BB5.out hb)
                      clear ho hb hsl
                      go_wp2_with fail
                      with_reducible refine Calls.mono (CT.out _) ?_
                      rintro e w5 ⟨v, rfl, ho, hb⟩
                      obtain ⟨oT, cT, rfl, -, -, -, hsl⟩ := ho.form
                      obtain ⟨bR, fR, rfl, lR, hcR⟩ := (SR.out.next hb).cells (fun h => by have := LR.out.1; rw [h] at this; simp at this)
                      obtain ⟨bT, fT, rfl, lT, hcT⟩ := hsl.cells (fun h => by have := LT.out.1; rw [h] at this; simp at this)
                      have BB7 := Lib.hid (Below.andThen BB6.out hb)
                      have CR2 := Lib.hid (fun (W : World) (h : Below w5.heap.size w5 W) i (hi : i < (words 0 n).length) => (show W.cell? ⟨bR, fR + i, none⟩ = some (sV ((words 0 n).getD i [])) from (h.cell (p := ⟨bR, fR + i, none⟩) lR).trans (hcR i _ (by rw [List.getD_eq_getElem?_getD, List.getElem?_eq_getElem hi]; rfl))))
                      have CT2 := Lib.hid (fun (W : World) (h : Below w5.heap.size w5 W) i (hi : i < (words 0 (1000 * n)).length) => (show W.cell? ⟨bT, fT + i, none⟩ = some (sV ((words 0 (1000 * n)).getD i [])) from (h.cell (p := ⟨bT, fT + i, none⟩) lT).trans (hcT i _ (by rw [List.getD_eq_getElem?_getD, List.getElem?_eq_getElem hi]; rfl))))
                      have LR1 := LR.out.2
                      have LT1 := LT.out.2
                      clear ho hb hsl SR hcR hcT LR LT CSm CT BB5 BB6
                      generalize words 0 n = R at *
                      generalize words 0 (1000 * n) = T at *
                      go_wp2_with fail
                      go_loopw [13] (fun jv wx => ∃ i : Nat, jv = .int .i64 i ∧ i ≤ R.length ∧ (∀ i', i' < i → R.getD i' [] ≠ c :: r) ∧ Below w5.heap.size w5 wx) (fun jv _ => R.length - (intOf jv).toNat)
                      case atStart => exact ⟨0, rfl, Nat.zero_le _, fun i' h => absurd h (Nat.not_lt_zero _), Below.refl _ _⟩
                      case round =>
                        obtain ⟨i, rfl, hi, hno, hB⟩ := hrel
                        have BBr := Lib.hid hB
                        have HN := Lib.hid hno
                        clear hB hno
                        by_cases hlt : i < R.length
                        · have hcx := CR2.out _ BBr.out i hlt
                          have HAx := Lib.hid (fun h => HA.out i (.inl ⟨hlt, h⟩))
                          obtain ⟨z, hz⟩ : ∃ z, R.getD i [] = z := ⟨_, rfl⟩
                          have HZ := Lib.hid hz
                          rw [hz] at hcx HAx
                          have hcmp := HCM2.out z
                          obtain ⟨E, hE⟩ : ∃ E, decide (z = c :: r) = E := ⟨_, rfl⟩
                          rw [hE] at hcmp
                          have HEE := Lib.hid hE
                          clear hE hz
                          cases E with
                          | true =>
                            have HE := Lib.hid (HAx.out (of_decide_eq_true HEE.out))
                            go_wp2_with fail
                            go_ret
                            exact ⟨by rw [HE.out]; rfl, Below.andThen BB7.out BBr.out⟩
                          | false =>
                            go_wp2_with fail
                            go_roundw
                            case rel =>
                              refine ⟨i + 1, by go_num, by omega, fun i' h => ?_, BBr.out⟩
                              rcases Nat.lt_succ_iff_lt_or_eq.1 h with h | rfl
                              · exact HN.out i' h
                              · rw [HZ.out]; exact of_decide_eq_false HEE.out
                            case measure => simp [intOf]; omega
                        · obtain rfl : i = R.length := by omega
                          have HNR := Lib.hid (fun i' (h : i' < R.length) => HN.out i' h)
                          go_wp2_with fail
                          clear HN
                          go_loopw [14] (fun jv wx => ∃ i : Nat, jv = .int .i64 i ∧ i ≤ T.length ∧ (∀ i', i' < i → T.getD i' [] ≠ c :: r) ∧ Below w5.heap.size w5 wx) (fun jv _ => T.length - (intOf jv).toNat)
                          case atStart => exact ⟨0, rfl, Nat.zero_le _, fun i' h => absurd h (Nat.not_lt_zero _), BBr.out⟩
                          case round =>
                            obtain ⟨i, rfl, hi, hno, hB⟩ := hrel
                            have BBr := Lib.hid hB
                            have HN := Lib.hid hno
                            clear hB hno
                            by_cases hlt : i < T.length
                            · have hcx := CT2.out _ BBr.out i hlt
                              have HAx := Lib.hid (fun h => HA.out i (.inr ⟨hlt, h⟩))
                              obtain ⟨z, hz⟩ : ∃ z, T.getD i [] = z := ⟨_, rfl⟩
                              have HZ := Lib.hid hz
                              rw [hz] at hcx HAx
                              have hcmp := HCM2.out z
                              obtain ⟨E, hE⟩ : ∃ E, decide (z = c :: r) = E := ⟨_, rfl⟩
                              rw [hE] at hcmp
                              have HEE := Lib.hid hE
                              clear hE hz
                              cases E with
                              | true =>
                                have HE := Lib.hid (HAx.out (of_decide_eq_true HEE.out))
                                go_wp2_with fail
                                go_ret
                                exact ⟨by rw [HE.out]; rfl, Below.andThen BB7.out BBr.out⟩
                              | false =>
                                go_wp2_with fail
                                go_roundw
                                case rel =>
                                  refine ⟨i + 1, by go_num, by omega, fun i' h => ?_, BBr.out⟩
                                  rcases Nat.lt_succ_iff_lt_or_eq.1 h with h | rfl
                                  · exact HN.out i' h
                                  · rw [HZ.out]; exact of_decide_eq_false HEE.out
                                case measure => simp [intOf]; omega
                            · obtain rfl : i = T.length := by omega
                              go_wp2_with fail
                              go_roundw
                              case rel => exact ⟨n + 1, by go_num, by omega, by omega, HNO.out HNR.out HN.out, Below.andThen BB7.out BBr.out⟩
                              case measure => simp [intOf]; omega
                    · have q1i : (99 : Int) < n := by omega
                      have q2i : (1 : Int) < (n : Int) % 100 := by omega
                      have q2t : (1 : Int) < (n : Int).tmod 100 := by rw [Int.tmod_eq_emod_of_nonneg (by omega)]; omega
                      cases G with
                      | true =>
                        have HA := Lib.hid (HYS.out (.inr rfl))
                        clear HYS HSK
                        go_wp2_with fail
                        with_reducible refine Calls.mono (CSm.out _) ?_
                        rintro e w4 ⟨v, rfl, ho, hb⟩
                        obtain ⟨oR, cR, rfl, -, -, -, hsl⟩ := ho.form
                        have SR := Lib.hid hsl
                        have BB6 := Lib.hid (Below.andThen BB5.out hb)
                        clear ho hb hsl
                        go_wp2_with fail
                        with_reducible refine Calls.mono (CT.out _) ?_
                        rintro e w5 ⟨v, rfl, ho, hb⟩
                        obtain ⟨oT, cT, rfl, -, -, -, hsl⟩ := ho.form
                        obtain ⟨bR, fR, rfl, lR, hcR⟩ := (SR.out.next hb).cells (fun h => by have := LR.out.1; rw [h] at this; simp at this)
                        obtain ⟨bT, fT, rfl, lT, hcT⟩ := hsl.cells (fun h => by have := LT.out.1; rw [h] at this; simp at this)
                        have BB7 := Lib.hid (Below.andThen BB6.out hb)
                        have CR2 := Lib.hid (fun (W : World) (h : Below w5.heap.size w5 W) i (hi : i < (words 0 n).length) => (show W.cell? ⟨bR, fR + i, none⟩ = some (sV ((words 0 n).getD i [])) from (h.cell (p := ⟨bR, fR + i, none⟩) lR).trans (hcR i _ (by rw [List.getD_eq_getElem?_getD, List.getElem?_eq_getElem hi]; rfl))))
                        have CT2 := Lib.hid (fun (W : World) (h : Below w5.heap.size w5 W) i (hi : i < (words 0 (1000 * n)).length) => (show W.cell? ⟨bT, fT + i, none⟩ = some (sV ((words 0 (1000 * n)).getD i [])) from (h.cell (p := ⟨bT, fT + i, none⟩) lT).trans (hcT i _ (by rw [List.getD_eq_getElem?_getD, List.getElem?_eq_getElem hi]; rfl))))
                        have LR1 := LR.out.2
                        have LT1 := LT.out.2
                        clear ho hb hsl SR hcR hcT LR LT CSm CT BB5 BB6
                        generalize words 0 n = R at *
                        generalize words 0 (1000 * n) = T at *
                        go_wp2_with fail
                        go_loopw [13] (fun jv wx => ∃ i : Nat, jv = .int .i64 i ∧ i ≤ R.length ∧ (∀ i', i' < i → R.getD i' [] ≠ c :: r) ∧ Below w5.heap.size w5 wx) (fun jv _ => R.length - (intOf jv).toNat)
                        case atStart => exact ⟨0, rfl, Nat.zero_le _, fun i' h => absurd h (Nat.not_lt_zero _), Below.refl _ _⟩
                        case round =>
                          obtain ⟨i, rfl, hi, hno, hB⟩ := hrel
                          have BBr := Lib.hid hB
                          have HN := Lib.hid hno
                          clear hB hno
                          by_cases hlt : i < R.length
                          · have hcx := CR2.out _ BBr.out i hlt
                            have HAx := Lib.hid (fun h => HA.out i (.inl ⟨hlt, h⟩))
                            obtain ⟨z, hz⟩ : ∃ z, R.getD i [] = z := ⟨_, rfl⟩
                            have HZ := Lib.hid hz
                            rw [hz] at hcx HAx
                            have hcmp := HCM2.out z
                            obtain ⟨E, hE⟩ : ∃ E, decide (z = c :: r) = E := ⟨_, rfl⟩
                            rw [hE] at hcmp
                            have HEE := Lib.hid hE
                            clear hE hz
                            cases E with
                            | true =>
                              have HE := Lib.hid (HAx.out (of_decide_eq_true HEE.out))
                              go_wp2_with fail
                              go_ret
                              exact ⟨by rw [HE.out]; rfl, Below.andThen BB7.out BBr.out⟩
                            | false =>
                              go_wp2_with fail
                              go_roundw
                              case rel =>
                                refine ⟨i + 1, by go_num, by omega, fun i' h => ?_, BBr.out⟩
                                rcases Nat.lt_succ_iff_lt_or_eq.1 h with h | rfl
                                · exact HN.out i' h
                                · rw [HZ.out]; exact of_decide_eq_false HEE.out
                              case measure => simp [intOf]; omega
                          · obtain rfl : i = R.length := by omega
                            have HNR := Lib.hid (fun i' (h : i' < R.length) => HN.out i' h)
                            go_wp2_with fail
                            clear HN
                            go_loopw [14] (fun jv wx => ∃ i : Nat, jv = .int .i64 i ∧ i ≤ T.length ∧ (∀ i', i' < i → T.getD i' [] ≠ c :: r) ∧ Below w5.heap.size w5 wx) (fun jv _ => T.length - (intOf jv).toNat)
                            case atStart => exact ⟨0, rfl, Nat.zero_le _, fun i' h => absurd h (Nat.not_lt_zero _), BBr.out⟩
                            case round =>
                              obtain ⟨i, rfl, hi, hno, hB⟩ := hrel
                              have BBr := Lib.hid hB
                              have HN := Lib.hid hno
                              clear hB hno
                              by_cases hlt : i < T.length
                              · have hcx := CT2.out _ BBr.out i hlt
                                have HAx := Lib.hid (fun h => HA.out i (.inr ⟨hlt, h⟩))
                                obtain ⟨z, hz⟩ : ∃ z, T.getD i [] = z := ⟨_, rfl⟩
                                have HZ := Lib.hid hz
                                rw [hz] at hcx HAx
                                have hcmp := HCM2.out z
                                obtain ⟨E, hE⟩ : ∃ E, decide (z = c :: r) = E := ⟨_, rfl⟩
                                rw [hE] at hcmp
                                have HEE := Lib.hid hE
                                clear hE hz
                                cases E with
                                | true =>
                                  have HE := Lib.hid (HAx.out (of_decide_eq_true HEE.out))
                                  go_wp2_with fail
                                  go_ret
                                  exact ⟨by rw [HE.out]; rfl, Below.andThen BB7.out BBr.out⟩
                                | false =>
                                  go_wp2_with fail
                                  go_roundw
                                  case rel =>
                                    refine ⟨i + 1, by go_num, by omega, fun i' h => ?_, BBr.out⟩
                                    rcases Nat.lt_succ_iff_lt_or_eq.1 h with h | rfl
                                    · exact HN.out i' h
                                    · rw [HZ.out]; exact of_decide_eq_false HEE.out
                                  case measure => simp [intOf]; omega
                              · obtain rfl : i = T.length := by omega
                                go_wp2_with fail
                                go_roundw
                                case rel => exact ⟨n + 1, by go_num, by omega, by omega, HNO.out HNR.out HN.out, Below.andThen BB7.out BBr.out⟩
                                case measure => simp [intOf]; omega
                      | false =>
                        have HY := Lib.hid (HSK.out (by unfold asked; rw [decide_eq_true q1, decide_eq_true q2]; rfl) rfl)
                        clear HYS HSK HNO
                        go_wp2_with fail
                        go_roundw
                        case rel => exact ⟨n + 1, by go_num, by omega, by omega, HY.out, BB5.out⟩
                        case measure => simp [intOf]; omega
                  · obtain rfl : n = 1000 := by omega
                    have HE := Lib.hid (show D = false from by
                      cases h : D with
                      | false => rfl
                      | true => exact absurd (HDE.out.1 h) HFD.out)
                    go_wp2_with fail
                    go_ret
                    exact ⟨by rw [HE.out]; rfl, BB5.out⟩
end Wo
end Go.Proofs.YtebdpdmkehfgfaaDoor
set_option linter.unusedVariables false
set_option linter.unusedSimpArgs false
namespace Go.Proofs.YtebdpdmkehfgfaaDoor
open Go.RowKit
namespace Wo
set_option maxRecDepth 100000 in
set_option maxHeartbeats 8000000 in
theorem rIs_yes1 (s : B) (w : World) (hs : s.length ≤ 1000000) : Calls Tryd.prog 24 #[.int .i64 2, .string (bs s)] w fun e w' => e = .returned (.bool (isW 1 s)) ∧ Below w.heap.size w w' := by
  obtain ⟨D, hD⟩ : ∃ D, isW 1 s = D := ⟨_, rfl⟩
  cases s with
  | nil =>
    have HF := Lib.hid (show D = false from by
      rw [← hD]
      cases h : isW 1 [] with
      | false => rfl
      | true => exact absurd ((rIs_iff (by decide) []).1 h).1 (by simp [firstB]))
    rw [hD]
    clear hD
    rw [HF.out]
    have HB0 := Lib.hid (show bs [] = ({ data := #[] } : ByteArray) from rfl)
    rw [HB0.out]
    go_enter Tryd.func24, Tryd.ntmps24
    go_wp2_with fail
    go_loopw [6, 7] (fun bv iv wr => bv = .bool false ∧ iv = .int .i64 0 ∧ Below w.heap.size w wr) (fun _ iv _ => 10 - (intOf iv).toNat)
    case atStart => exact ⟨rfl, rfl, (Below.refl _ _).alloc (Nat.le_refl _) _⟩
    case round =>
      obtain ⟨rfl, rfl, hB⟩ := hrel
      have BB := Lib.hid hB
      clear hB
      go_wp2_with fail
      go_ret
      exact ⟨rfl, BB.out⟩
  | cons c r =>
    have HD := Lib.hid hD
    rw [hD]
    clear hD
    have HI := Lib.hid (fun w => run_index_bs w (c :: r) 0 c rfl)
    have hne : ¬ bs (c :: r) = ({ data := #[] } : ByteArray) := fun e => by
      have := congrArg ByteArray.size e
      rw [bs_size, List.length_cons] at this
      exact absurd this (Nat.succ_ne_zero _)
    have HNE := Lib.hid hne
    have hemp : (bs (c :: r)).toList.isEmpty = false := by rw [ByteArray.toList_eq, bs_list]; rfl
    obtain ⟨F, hF⟩ : ∃ F, bs (firsts 1) = F := ⟨_, rfl⟩
    have HFX := Lib.hid (fun i (hi : i < 10) w => by
      have h := run_index_bs w (firsts 1) i ((firsts 1).getD i 0) (by rw [List.getD_eq_getElem?_getD, List.getElem?_eq_getElem (show i < (firsts 1).length from hi), Option.getD_some])
      rw [hF] at h
      exact h)
    have HFS := Lib.hid (show F.size = 10 from by rw [← hF]; rfl)
    have HF := Lib.hid hF
    have HS6 := Lib.hid (show (bs (c :: r)).size ≤ 1000000 from by rw [bs_size]; exact hs)
    have HCM := Lib.hid (fun z => beq_bs (c :: r) z)
    have HCM2 := Lib.hid (fun z => beq_bs z (c :: r))
    have HSL := Lib.hid (show (bs (c :: r)).size = (c :: r).length from bs_size _)
    have HEX := Lib.hid (fun i => hundert_at (s := c :: r) (i := i))
    generalize bs (c :: r) = S at *
    clear hF
    go_enter Tryd.func24, Tryd.ntmps24
    go_wp2_with fail
    rw [show ({ data := #[97, 100, 101, 102, 104, 110, 115, 116, 118, 122] } : ByteArray) = F from HF.out]
    have hF8 := HFS.out
    go_loopw [6, 7] (fun bv iv wr => ∃ i : Nat, iv = .int .i64 i ∧ i ≤ 10 ∧ bv = .bool (((firsts 1).take i).contains c) ∧ Below w.heap.size w wr) (fun _ iv _ => 10 - (intOf iv).toNat)
    case atStart => exact ⟨0, rfl, by decide, rfl, (Below.refl _ _).alloc (Nat.le_refl _) _⟩
    case round =>
      obtain ⟨i, rfl, hi, rfl, hB⟩ := hrel
      have BB := Lib.hid hB
      clear hB
      obtain ⟨G, hG⟩ : ∃ G, ((firsts 1).take i).contains c = G := ⟨_, rfl⟩
      rw [hG]
      by_cases hlt : i < 10
      · have hx : (firsts 1)[i]? = some ((firsts 1).getD i 0) := by rw [List.getD_eq_getElem?_getD, List.getElem?_eq_getElem (show i < (firsts 1).length from hlt), Option.getD_some]
        have HT := Lib.hid (take_contains (c := c) hx)
        rw [hG] at HT
        have hr0 := HI.out
        simp only [show ((0 : Nat) : Int) = 0 from rfl] at hr0
        have hr1 := HFX.out i hlt
        generalize (firsts 1).getD i 0 = x at *
        clear hx hG
        cases G with
        | true =>
          go_upto_region 8 with (fail)
          go_quiet (fail)
          go_wp2_with fail
          go_roundw
          case rel => exact ⟨i + 1, by go_num, by omega, by rw [HT.out]; rfl, by first | exact BB.out | exact below_drewN BB.out _⟩
          case measure => simp [intOf]; omega
        | false =>
          obtain ⟨E, hE⟩ : ∃ E, decide (x = c) = E := ⟨_, rfl⟩
          have hxb : ((x.toNat : Int) == c.toNat) = E := by
            rw [← hE, Bool.eq_iff_iff, beq_iff_eq, decide_eq_true_iff]
            exact ⟨fun e => UInt8.toNat_inj.1 (by omega), fun e => by rw [e]⟩
          rw [hE] at HT
          clear hE
          go_upto_region 8 with (fail)
          go_quiet (fail)
          go_wp2_with fail
          go_roundw
          case rel => exact ⟨i + 1, by go_num, by omega, by rw [HT.out]; first | rfl | exact congrArg Value.bool ((Bool.false_or E).symm), by first | exact BB.out | exact below_drewN BB.out _⟩
          case measure => simp [intOf]; omega
      · obtain rfl : i = 10 := by omega
        have hG2 : firstB 1 (c :: r) = G := hG
        cases G with
        | false =>
          have HE := Lib.hid (show D = false from by
            rw [← HD.out]
            cases h : isW 1 (c :: r) with
            | false => rfl
            | true =>
              have h2 := ((rIs_iff (by decide) (c :: r)).1 h).1
              rw [hG2] at h2
              cases h2)
          clear hG hG2
          go_wp2_with fail
          go_ret
          exact ⟨by rw [HE.out]; rfl, BB.out⟩
        | true =>
          have HG2 := Lib.hid hG2
          have HDD := Lib.hid (show D = true ↔ ((c :: r) ∈ words 1 0 ∨ Fd 1 (c :: r) 1000) from by
            rw [← HD.out, rIs_iff (by decide), hG2]
            exact ⟨fun h => h.2, fun h => ⟨rfl, h⟩⟩)
          have HS0 := Lib.hid (show (c :: r) ∈ words 1 0 ↔ (c :: r) = (ones 1).getD 0 [] from List.mem_singleton)
          clear hG hG2
          have CU := Lib.hid (fun W => runits 1 2 (by decide) rfl W)
          have LO := Lib.hid (ones_len (k := 1) (by decide))
          have hcmp := HCM.out ((ones 1).getD 0 [])
          obtain ⟨z, hz⟩ : ∃ z, (ones 1).getD 0 [] = z := ⟨_, rfl⟩
          rw [hz] at hcmp HS0
          have HZ := Lib.hid hz
          obtain ⟨E, hE⟩ : ∃ E, decide ((c :: r) = z) = E := ⟨_, rfl⟩
          rw [hE] at hcmp
          have HEE := Lib.hid hE
          clear hE hz
          go_wp2_with fail
          with_reducible refine Calls.mono (CU.out _) ?_
          rintro e w3 ⟨bu, rfl, hS, hb⟩
          obtain ⟨hlu, hcu⟩ := ssl_at hS (i := 0) (by rw [LO.out]; decide)
          rw [HZ.out] at hcu
          have BB3 := Lib.hid (Below.andThen BB.out hb)
          clear hb hS
          cases E with
          | true =>
            have HE := Lib.hid (show D = true from HDD.out.2 (.inl (HS0.out.2 (of_decide_eq_true HEE.out))))
            go_wp2_with fail
            go_ret
            exact ⟨by rw [HE.out]; rfl, BB3.out⟩
          | false =>
            have HDE := Lib.hid (show D = true ↔ Fd 1 (c :: r) 1000 from HDD.out.trans ⟨fun h => h.resolve_left (fun h => absurd (HS0.out.1 h) (of_decide_eq_false HEE.out)), .inr⟩)
            clear HDD HS0
            go_wp2_with fail
            clear hF8 hlt hcu hcmp CU LO HZ HEE
            go_loopw [8, 9] (fun lv iv wx => ∃ i : Nat, iv = .int .i64 i ∧ (i = 0 ∨ i + 6 ≤ S.size) ∧ lv = .bool (hasTo (c :: r) i) ∧ Below w3.heap.size w3 wx) (fun _ iv _ => S.size - (intOf iv).toNat)
            case atStart => exact ⟨0, rfl, .inl rfl, rfl, Below.refl _ _⟩
            case round =>
              obtain ⟨i, rfl, hi, rfl, hB⟩ := hrel
              have BB4 := Lib.hid (Below.andThen BB3.out hB)
              have BBr := Lib.hid hB
              clear hB
              obtain ⟨G, hG⟩ : ∃ G, hasTo (c :: r) i = G := ⟨_, rfl⟩
              rw [hG]
              have hS6 := HS6.out
              by_cases hlt : i + 7 ≤ S.size
              · have hlti : (i : Int) + 7 ≤ S.size := by omega
                have HT := Lib.hid (hasTo_succ (c :: r) i)
                rw [hG] at HT
                clear hG
                obtain ⟨P, hP⟩ : ∃ P, hundert.isPrefixOf ((c :: r).drop i) = P := ⟨_, rfl⟩
                have hext := (HEX.out i).trans hP
                rw [hP] at HT
                clear hP
                cases G with
                | true =>
                  go_wp2_with fail
                  go_roundw
                  case rel => exact ⟨i + 1, by go_num, .inr (by omega), by rw [HT.out]; rfl, BBr.out⟩
                  case measure => simp [intOf]; omega
                | false =>
                  go_wp2_with fail
                  go_roundw
                  case rel => exact ⟨i + 1, by go_num, .inr (by omega), by rw [HT.out]; exact congrArg Value.bool (Bool.false_or P).symm, BBr.out⟩
                  case measure => simp [intOf]; omega
              · have hlti : ¬ (i : Int) + 7 ≤ S.size := by omega
                have HH := Lib.hid (show hasH (c :: r) = G from by rw [← hG]; exact (hasTo_all (by rcases hi with rfl | h <;> first | exact Nat.zero_le _ | (have := HSL.out; omega)) (by have := HSL.out; omega)).symm)
                clear hG
                go_wp2_with fail
                go_loopw [10] (fun nv wx => ∃ n : Nat, nv = .int .i64 n ∧ 1 ≤ n ∧ n ≤ 1000 ∧ ¬ Fd 1 (c :: r) n ∧ Below w.heap.size w wx) (fun nv _ => 1000 - (intOf nv).toNat)
                case atStart => exact ⟨1, rfl, Nat.le_refl _, by decide, fd_zero 1 _, BB4.out⟩
                case round =>
                  obtain ⟨n, rfl, hn1, hn9, hfd, hB⟩ := hrel
                  have BB5 := Lib.hid hB
                  have HFD := Lib.hid hfd
                  clear hB hfd
                  by_cases hn : n < 1000
                  · have CSm := Lib.hid (fun W => rsmall_any 1 2 (by decide) rfl n true n rfl hn1 hn W)
                    rw [(r_small (k := 1) (by decide) hn hn1).1] at CSm
                    have CT := Lib.hid (fun W => rthousand_any 1 2 (by decide) rfl n n rfl hn1 hn W)
                    rw [(r_small (k := 1) (by decide) hn hn1).2] at CT
                    have LR := Lib.hid (words_len 1 (show n < 1000000 by omega))
                    have LT := Lib.hid (words_len 1 (show 1000 * n < 1000000 by omega))
                    have HYS := Lib.hid (fun (ha : asked n = true ∨ G = true) i h => HDE.out.2 (fd_yes (s := c :: r) (i := i) hn1 hn (ha.imp id (fun h => HH.out.trans h)) h))
                    have HNO := Lib.hid (fun h1 h2 => fd_not HFD.out h1 h2)
                    have HSK := Lib.hid (fun h1 h2 => fd_skip HFD.out h1 (HH.out.trans h2))
                    rcases (show (¬ 99 < n) ∨ (99 < n ∧ ¬ 1 < n % 100) ∨ (99 < n ∧ 1 < n % 100) by omega) with q1 | ⟨q1, q2⟩ | ⟨q1, q2⟩
                    · have q1i : ¬ (99 : Int) < n := by omega
                      have HA := Lib.hid (HYS.out (.inl (asked_yes (.inl (by omega)))))
                      clear HYS HSK
                      go_wp2_with fail
                      with_reducible refine Calls.mono (CSm.out _) ?_
                      rintro e w4 ⟨v, rfl, ho, hb⟩
                      obtain ⟨oR, cR, rfl, -, -, -, hsl⟩ := ho.form
                      have SR := Lib.hid hsl
                      have BB6 := Lib.hid (Below.andThen BB5.out hb)
                      clear ho hb hsl
                      go_wp2_with fail
                      with_reducible refine Calls.mono (CT.out _) ?_
                      rintro e w5 ⟨v, rfl, ho, hb⟩
                      obtain ⟨oT, cT, rfl, -, -, -, hsl⟩ := ho.form
                      obtain ⟨bR, fR, rfl, lR, hcR⟩ := (SR.out.next hb).cells (fun h => by have := LR.out.1; rw [h] at this; simp at this)
                      obtain ⟨bT, fT, rfl, lT, hcT⟩ := hsl.cells (fun h => by have := LT.out.1; rw [h] at this; simp at this)
                      have BB7 := Lib.hid (Below.andThen BB6.out hb)
                      have CR2 := Lib.hid (fun (W : World) (h : Below w5.heap.size w5 W) i (hi : i < (words 1 n).length) => (show W.cell? ⟨bR, fR + i, none⟩ = some (sV ((words 1 n).getD i [])) from (h.cell (p := ⟨bR, fR + i, none⟩) lR).trans (hcR i _ (by rw [List.getD_eq_getElem?_getD, List.getElem?_eq_getElem hi]; rfl))))
                      have CT2 := Lib.hid (fun (W : World) (h : Below w5.heap.size w5 W) i (hi : i < (words 1 (1000 * n)).length) => (show W.cell? ⟨bT, fT + i, none⟩ = some (sV ((words 1 (1000 * n)).getD i [])) from (h.cell (p := ⟨bT, fT + i, none⟩) lT).trans (hcT i _ (by rw [List.getD_eq_getElem?_getD, List.getElem?_eq_getElem hi]; rfl))))
                      have LR1 := LR.out.2
                      have LT1 := LT.out.2
                      clear ho hb hsl SR hcR hcT LR LT CSm CT BB5 BB6
                      generalize words 1 n = R at *
                      generalize words 1 (1000 * n) = T at *
                      go_wp2_with fail
                      go_loopw [13] (fun jv wx => ∃ i : Nat, jv = .int .i64 i ∧ i ≤ R.length ∧ (∀ i', i' < i → R.getD i' [] ≠ c :: r) ∧ Below w5.heap.size w5 wx) (fun jv _ => R.length - (intOf jv).toNat)
                      case atStart => exact ⟨0, rfl, Nat.zero_le _, fun i' h => absurd h (Nat.not_lt_zero _), Below.refl _ _⟩
                      case round =>
                        obtain ⟨i, rfl, hi, hno, hB⟩ := hrel
                        have BBr := Lib.hid hB
                        have HN := Lib.hid hno
                        clear hB hno
                        by_cases hlt : i < R.length
                        · have hcx := CR2.out _ BBr.out i hlt
                          have HAx := Lib.hid (fun h => HA.out i (.inl ⟨hlt, h⟩))
                          obtain ⟨z, hz⟩ : ∃ z, R.getD i [] = z := ⟨_, rfl⟩
                          have HZ := Lib.hid hz
                          rw [hz] at hcx HAx
                          have hcmp := HCM2.out z
                          obtain ⟨E, hE⟩ : ∃ E, decide (z = c :: r) = E := ⟨_, rfl⟩
                          rw [hE] at hcmp
                          have HEE := Lib.hid hE
                          clear hE hz
                          cases E with
                          | true =>
                            have HE := Lib.hid (HAx.out (of_decide_eq_true HEE.out))
                            go_wp2_with fail
                            go_ret
                            exact ⟨by rw [HE.out]; rfl, Below.andThen BB7.out BBr.out⟩
                          | false =>
                            go_wp2_with fail
                            go_roundw
                            case rel =>
                              refine ⟨i + 1, by go_num, by omega, fun i' h => ?_, BBr.out⟩
                              rcases Nat.lt_succ_iff_lt_or_eq.1 h with h | rfl
                              · exact HN.out i' h
                              · rw [HZ.out]; exact of_decide_eq_false HEE.out
                            case measure => simp [intOf]; omega
                        · obtain rfl : i = R.length := by omega
                          have HNR := Lib.hid (fun i' (h : i' < R.length) => HN.out i' h)
                          go_wp2_with fail
                          clear HN
                          go_loopw [14] (fun jv wx => ∃ i : Nat, jv = .int .i64 i ∧ i ≤ T.length ∧ (∀ i', i' < i → T.getD i' [] ≠ c :: r) ∧ Below w5.heap.size w5 wx) (fun jv _ => T.length - (intOf jv).toNat)
                          case atStart => exact ⟨0, rfl, Nat.zero_le _, fun i' h => absurd h (Nat.not_lt_zero _), BBr.out⟩
                          case round =>
                            obtain ⟨i, rfl, hi, hno, hB⟩ := hrel
                            have BBr := Lib.hid hB
                            have HN := Lib.hid hno
                            clear hB hno
                            by_cases hlt : i < T.length
                            · have hcx := CT2.out _ BBr.out i hlt
                              have HAx := Lib.hid (fun h => HA.out i (.inr ⟨hlt, h⟩))
                              obtain ⟨z, hz⟩ : ∃ z, T.getD i [] = z := ⟨_, rfl⟩
                              have HZ := Lib.hid hz
                              rw [hz] at hcx HAx
                              have hcmp := HCM2.out z
                              obtain ⟨E, hE⟩ : ∃ E, decide (z = c :: r) = E := ⟨_, rfl⟩
                              rw [hE] at hcmp
                              have HEE := Lib.hid hE
                              clear hE hz
                              cases E with
                              | true =>
                                have HE := Lib.hid (HAx.out (of_decide_eq_true HEE.out))
                                go_wp2_with fail
                                go_ret
                                exact ⟨by rw [HE.out]; rfl, Below.andThen BB7.out BBr.out⟩
                              | false =>
                                go_wp2_with fail
                                go_roundw
                                case rel =>
                                  refine ⟨i + 1, by go_num, by omega, fun i' h => ?_, BBr.out⟩
                                  rcases Nat.lt_succ_iff_lt_or_eq.1 h with h | rfl
                                  · exact HN.out i' h
                                  · rw [HZ.out]; exact of_decide_eq_false HEE.out
                                case measure => simp [intOf]; omega
                            · obtain rfl : i = T.length := by omega
                              go_wp2_with fail
                              go_roundw
                              case rel => exact ⟨n + 1, by go_num, by omega, by omega, HNO.out HNR.out HN.out, Below.andThen BB7.out BBr.out⟩
                              case measure => simp [intOf]; omega
                    · have q1i : (99 : Int) < n := by omega
                      have q2i : ¬ (1 : Int) < (n : Int) % 100 := by omega
                      have q2t : ¬ (1 : Int) < (n : Int).tmod 100 := by rw [Int.tmod_eq_emod_of_nonneg (by omega)]; omega
                      have HA := Lib.hid (HYS.out (.inl (asked_yes (.inr (by omega)))))
                      clear HYS HSK
                      go_wp2_with fail
                      with_reducible refine Calls.mono (CSm.out _) ?_
                      rintro e w4 ⟨v, rfl, ho, hb⟩
                      obtain ⟨oR, cR, rfl, -, -, -, hsl⟩ := ho.form
                      have SR := Lib.hid hsl
                      have BB6 := Lib.hid (Below.andThen BB5.out hb)
                      clear ho hb hsl
                      go_wp2_with fail
                      with_reducible refine Calls.mono (CT.out _) ?_
                      rintro e w5 ⟨v, rfl, ho, hb⟩
                      obtain ⟨oT, cT, rfl, -, -, -, hsl⟩ := ho.form
                      obtain ⟨bR, fR, rfl, lR, hcR⟩ := (SR.out.next hb).cells (fun h => by have := LR.out.1; rw [h] at this; simp at this)
                      obtain ⟨bT, fT, rfl, lT, hcT⟩ := hsl.cells (fun h => by have := LT.out.1; rw [h] at this; simp at this)
                      have BB7 := Lib.hid (Below.andThen BB6.out hb)
                      have CR2 := Lib.hid (fun (W : World) (h : Below w5.heap.size w5 W) i (hi : i < (words 1 n).length) => (show W.cell? ⟨bR, fR + i, none⟩ = some (sV ((words 1 n).getD i [])) from (h.cell (p := ⟨bR, fR + i, none⟩) lR).trans (hcR i _ (by rw [List.getD_eq_getElem?_getD, List.getElem?_eq_getElem hi]; rfl))))
                      have CT2 := Lib.hid (fun (W : World) (h : Below w5.heap.size w5 W) i (hi : i < (words 1 (1000 * n)).length) => (show W.cell? ⟨bT, fT + i, none⟩ = some (sV ((words 1 (1000 * n)).getD i [])) from (h.cell (p := ⟨bT, fT + i, none⟩) lT).trans (hcT i _ (by rw [List.getD_eq_getElem?_getD, List.getElem?_eq_getElem hi]; rfl))))
                      have LR1 := LR.out.2
                      have LT1 := LT.out.2
                      clear ho hb hsl SR hcR hcT LR LT CSm CT BB5 BB6
                      generalize words 1 n = R at *
                      generalize words 1 (1000 * n) = T at *
                      go_wp2_with fail
                      go_loopw [13] (fun jv wx => ∃ i : Nat, jv = .int .i64 i ∧ i ≤ R.length ∧ (∀ i', i' < i → R.getD i' [] ≠ c :: r) ∧ Below w5.heap.size w5 wx) (fun jv _ => R.length - (intOf jv).toNat)
                      case atStart => exact ⟨0, rfl, Nat.zero_le _, fun i' h => absurd h (Nat.not_lt_zero _), Below.refl _ _⟩
                      case round =>
                        obtain ⟨i, rfl, hi, hno, hB⟩ := hrel
                        have BBr := Lib.hid hB
                        have HN := Lib.hid hno
                        clear hB hno
                        by_cases hlt : i < R.length
                        · have hcx := CR2.out _ BBr.out i hlt
                          have HAx := Lib.hid (fun h => HA.out i (.inl ⟨hlt, h⟩))
                          obtain ⟨z, hz⟩ : ∃ z, R.getD i [] = z := ⟨_, rfl⟩
                          have HZ := Lib.hid hz
                          rw [hz] at hcx HAx
                          have hcmp := HCM2.out z
                          obtain ⟨E, hE⟩ : ∃ E, decide (z = c :: r) = E := ⟨_, rfl⟩
                          rw [hE] at hcmp
                          have HEE := Lib.hid hE
                          clear hE hz
                          cases E with
                          | true =>
                            have HE := Lib.hid (HAx.out (of_decide_eq_true HEE.out))
                            go_wp2_with fail
                            go_ret
                            exact ⟨by rw [HE.out]; rfl, Below.andThen BB7.out BBr.out⟩
                          | false =>
                            go_wp2_with fail
                            go_roundw
                            case rel =>
                              refine ⟨i + 1, by go_num, by omega, fun i' h => ?_, BBr.out⟩
                              rcases Nat.lt_succ_iff_lt_or_eq.1 h with h | rfl
                              · exact HN.out i' h
                              · rw [HZ.out]; exact of_decide_eq_false HEE.out
                            case measure => simp [intOf]; omega
                        · obtain rfl : i = R.length := by omega
                          have HNR := Lib.hid (fun i' (h : i' < R.length) => HN.out i' h)
                          go_wp2_with fail
                          clear HN
                          go_loopw [14] (fun jv wx => ∃ i : Nat, jv = .int .i64 i ∧ i ≤ T.length ∧ (∀ i', i' < i → T.getD i' [] ≠ c :: r) ∧ Below w5.heap.size w5 wx) (fun jv _ => T.length - (intOf jv).toNat)
                          case atStart => exact ⟨0, rfl, Nat.zero_le _, fun i' h => absurd h (Nat.not_lt_zero _), BBr.out⟩
                          case round =>
                            obtain ⟨i, rfl, hi, hno, hB⟩ := hrel
                            have BBr := Lib.hid hB
                            have HN := Lib.hid hno
                            clear hB hno
                            by_cases hlt : i < T.length
                            · have hcx := CT2.out _ BBr.out i hlt
                              have HAx := Lib.hid (fun h => HA.out i (.inr ⟨hlt, h⟩))
                              obtain ⟨z, hz⟩ : ∃ z, T.getD i [] = z := ⟨_, rfl⟩
                              have HZ := Lib.hid hz
                              rw [hz] at hcx HAx
                              have hcmp := HCM2.out z
                              obtain ⟨E, hE⟩ : ∃ E, decide (z = c :: r) = E := ⟨_, rfl⟩
                              rw [hE] at hcmp
                              have HEE := Lib.hid hE
                              clear hE hz
                              cases E with
                              | true =>
                                have HE := Lib.hid (HAx.out (of_decide_eq_true HEE.out))
                                go_wp2_with fail
                                go_ret
                                exact ⟨by rw [HE.out]; rfl, Below.andThen BB7.out BBr.out⟩
                              | false =>
                                go_wp2_with fail
                                go_roundw
                                case rel =>
                                  refine ⟨i + 1, by go_num, by omega, fun i' h => ?_, BBr.out⟩
                                  rcases Nat.lt_succ_iff_lt_or_eq.1 h with h | rfl
                                  · exact HN.out i' h
                                  · rw [HZ.out]; exact of_decide_eq_false HEE.out
                                case measure => simp [intOf]; omega
                            · obtain rfl : i = T.length := by omega
                              go_wp2_with fail
                              go_roundw
                              case rel => exact ⟨n + 1, by go_num, by omega, by omega, HNO.out HNR.out HN.out, Below.andThen BB7.out BBr.out⟩
                              case measure => simp [intOf]; omega
                    · have q1i : (99 : Int) < n := by omega
                      have q2i : (1 : Int) < (n : Int) % 100 := by omega
                      have q2t : (1 : Int) < (n : Int).tmod 100 := by rw [Int.tmod_eq_emod_of_nonneg (by omega)]; omega
                      cases G with
                      | true =>
                        have HA := Lib.hid (HYS.out (.inr rfl))
                        clear HYS HSK
                        go_wp2_with fail
                        with_reducible refine Calls.mono (CSm.out _) ?_
                        rintro e w4 ⟨v, rfl, ho, hb⟩
                        obtain ⟨oR, cR, rfl, -, -, -, hsl⟩ := ho.form
                        have SR := Lib.hid hsl
                        have BB6 := Lib.hid (Below.andThen BB5.out hb)
                        clear ho hb hsl
                        go_wp2_with fail
                        with_reducible refine Calls.mono (CT.out _) ?_
                        rintro e w5 ⟨v, rfl, ho, hb⟩
                        obtain ⟨oT, cT, rfl, -, -, -, hsl⟩ := ho.form
                        obtain ⟨bR, fR, rfl, lR, hcR⟩ := (SR.out.next hb).cells (fun h => by have := LR.out.1; rw [h] at this; simp at this)
                        obtain ⟨bT, fT, rfl, lT, hcT⟩ := hsl.cells (fun h => by have := LT.out.1; rw [h] at this; simp at this)
                        have BB7 := Lib.hid (Below.andThen BB6.out hb)
                        have CR2 := Lib.hid (fun (W : World) (h : Below w5.heap.size w5 W) i (hi : i < (words 1 n).length) => (show W.cell? ⟨bR, fR + i, none⟩ = some (sV ((words 1 n).getD i [])) from (h.cell (p := ⟨bR, fR + i, none⟩) lR).trans (hcR i _ (by rw [List.getD_eq_getElem?_getD, List.getElem?_eq_getElem hi]; rfl))))
                        have CT2 := Lib.hid (fun (W : World) (h : Below w5.heap.size w5 W) i (hi : i < (words 1 (1000 * n)).length) => (show W.cell? ⟨bT, fT + i, none⟩ = some (sV ((words 1 (1000 * n)).getD i [])) from (h.cell (p := ⟨bT, fT + i, none⟩) lT).trans (hcT i _ (by rw [List.getD_eq_getElem?_getD, List.getElem?_eq_getElem hi]; rfl))))
                        have LR1 := LR.out.2
                        have LT1 := LT.out.2
                        clear ho hb hsl SR hcR hcT LR LT CSm CT BB5 BB6
                        generalize words 1 n = R at *
                        generalize words 1 (1000 * n) = T at *
                        go_wp2_with fail
                        go_loopw [13] (fun jv wx => ∃ i : Nat, jv = .int .i64 i ∧ i ≤ R.length ∧ (∀ i', i' < i → R.getD i' [] ≠ c :: r) ∧ Below w5.heap.size w5 wx) (fun jv _ => R.length - (intOf jv).toNat)
                        case atStart => exact ⟨0, rfl, Nat.zero_le _, fun i' h => absurd h (Nat.not_lt_zero _), Below.refl _ _⟩
                        case round =>
                          obtain ⟨i, rfl, hi, hno, hB⟩ := hrel
                          have BBr := Lib.hid hB
                          have HN := Lib.hid hno
                          clear hB hno
                          by_cases hlt : i < R.length
                          · have hcx := CR2.out _ BBr.out i hlt
                            have HAx := Lib.hid (fun h => HA.out i (.inl ⟨hlt, h⟩))
                            obtain ⟨z, hz⟩ : ∃ z, R.getD i [] = z := ⟨_, rfl⟩
                            have HZ := Lib.hid hz
                            rw [hz] at hcx HAx
                            have hcmp := HCM2.out z
                            obtain ⟨E, hE⟩ : ∃ E, decide (z = c :: r) = E := ⟨_, rfl⟩
                            rw [hE] at hcmp
                            have HEE := Lib.hid hE
                            clear hE hz
                            cases E with
                            | true =>
                              have HE := Lib.hid (HAx.out (of_decide_eq_true HEE.out))
                              go_wp2_with fail
                              go_ret
                              exact ⟨by rw [HE.out]; rfl, Below.andThen BB7.out BBr.out⟩
                            | false =>
                              go_wp2_with fail
                              go_roundw
                              case rel =>
                                refine ⟨i + 1, by go_num, by omega, fun i' h => ?_, BBr.out⟩
                                rcases Nat.lt_succ_iff_lt_or_eq.1 h with h | rfl
                                · exact HN.out i' h
                                · rw [HZ.out]; exact of_decide_eq_false HEE.out
                              case measure => simp [intOf]; omega
                          · obtain rfl : i = R.length := by omega
                            have HNR := Lib.hid (fun i' (h : i' < R.length) => HN.out i' h)
                            go_wp2_with fail
                            clear HN
                            go_loopw [14] (fun jv wx => ∃ i : Nat, jv = .int .i64 i ∧ i ≤ T.length ∧ (∀ i', i' < i → T.getD i' [] ≠ c :: r) ∧ Below w5.heap.size w5 wx) (fun jv _ => T.length - (intOf jv).toNat)
                            case atStart => exact ⟨0, rfl, Nat.zero_le _, fun i' h => absurd h (Nat.not_lt_zero _), BBr.out⟩
                            case round =>
                              obtain ⟨i, rfl, hi, hno, hB⟩ := hrel
                              have BBr := Lib.hid hB
                              have HN := Lib.hid hno
                              clear hB hno
                              by_cases hlt : i < T.length
                              · have hcx := CT2.out _ BBr.out i hlt
                                have HAx := Lib.hid (fun h => HA.out i (.inr ⟨hlt, h⟩))
                                obtain ⟨z, hz⟩ : ∃ z, T.getD i [] = z := ⟨_, rfl⟩
                                have HZ := Lib.hid hz
                                rw [hz] at hcx HAx
                                have hcmp := HCM2.out z
                                obtain ⟨E, hE⟩ : ∃ E, decide (z = c :: r) = E := ⟨_, rfl⟩
                                rw [hE] at hcmp
                                have HEE := Lib.hid hE
                                clear hE hz
                                cases E with
                                | true =>
                                  have HE := Lib.hid (HAx.out (of_decide_eq_true HEE.out))
                                  go_wp2_with fail
                                  go_ret
                                  exact ⟨by rw [HE.out]; rfl, Below.andThen BB7.out BBr.out⟩
                                | false =>
                                  go_wp2_with fail
                                  go_roundw
                                  case rel =>
                                    refine ⟨i + 1, by go_num, by omega, fun i' h => ?_, BBr.out⟩
                                    rcases Nat.lt_succ_iff_lt_or_eq.1 h with h | rfl
                                    · exact HN.out i' h
                                    · rw [HZ.out]; exact of_decide_eq_false HEE.out
                                  case measure => simp [intOf]; omega
                              · obtain rfl : i = T.length := by omega
                                go_wp2_with fail
                                go_roundw
                                case rel => exact ⟨n + 1, by go_num, by omega, by omega, HNO.out HNR.out HN.out, Below.andThen BB7.out BBr.out⟩
                                case measure => simp [intOf]; omega
                      | false =>
                        have HY := Lib.hid (HSK.out (by unfold asked; rw [decide_eq_true q1, decide_eq_true q2]; rfl) rfl)
                        clear HYS HSK HNO
                        go_wp2_with fail
                        go_roundw
                        case rel => exact ⟨n + 1, by go_num, by omega, by omega, HY.out, BB5.out⟩
                        case measure => simp [intOf]; omega
                  · obtain rfl : n = 1000 := by omega
                    have HE := Lib.hid (show D = false from by
                      cases h : D with
                      | false => rfl
                      | true => exact absurd (HDE.out.1 h) HFD.out)
                    go_wp2_with fail
                    go_ret
                    exact ⟨by rw [HE.out]; rfl, BB5.out⟩
end Wo
end Go.Proofs.YtebdpdmkehfgfaaDoor
set_option linter.unusedVariables false
set_option linter.unusedSimpArgs false
namespace Go.Proofs.YtebdpdmkehfgfaaDoor
open Go.RowKit
namespace Wo
set_option maxRecDepth 100000 in
set_option maxHeartbeats 8000000 in
theorem rIs_yes2 (s : B) (w : World) (hs : s.length ≤ 1000000) : Calls Tryd.prog 24 #[.int .i64 3, .string (bs s)] w fun e w' => e = .returned (.bool (isW 2 s)) ∧ Below w.heap.size w w' := by
  obtain ⟨D, hD⟩ : ∃ D, isW 2 s = D := ⟨_, rfl⟩
  cases s with
  | nil =>
    have HF := Lib.hid (show D = false from by
      rw [← hD]
      cases h : isW 2 [] with
      | false => rfl
      | true => exact absurd ((rIs_iff (by decide) []).1 h).1 (by simp [firstB]))
    rw [hD]
    clear hD
    rw [HF.out]
    have HB0 := Lib.hid (show bs [] = ({ data := #[] } : ByteArray) from rfl)
    rw [HB0.out]
    go_enter Tryd.func24, Tryd.ntmps24
    go_wp2_with fail
    go_loopw [6, 7] (fun bv iv wr => bv = .bool false ∧ iv = .int .i64 0 ∧ Below w.heap.size w wr) (fun _ iv _ => 11 - (intOf iv).toNat)
    case atStart => exact ⟨rfl, rfl, (Below.refl _ _).alloc (Nat.le_refl _) _⟩
    case round =>
      obtain ⟨rfl, rfl, hB⟩ := hrel
      have BB := Lib.hid hB
      clear hB
      go_wp2_with fail
      go_ret
      exact ⟨rfl, BB.out⟩
  | cons c r =>
    have HD := Lib.hid hD
    rw [hD]
    clear hD
    have HI := Lib.hid (fun w => run_index_bs w (c :: r) 0 c rfl)
    have hne : ¬ bs (c :: r) = ({ data := #[] } : ByteArray) := fun e => by
      have := congrArg ByteArray.size e
      rw [bs_size, List.length_cons] at this
      exact absurd this (Nat.succ_ne_zero _)
    have HNE := Lib.hid hne
    have hemp : (bs (c :: r)).toList.isEmpty = false := by rw [ByteArray.toList_eq, bs_list]; rfl
    obtain ⟨F, hF⟩ : ∃ F, bs (firsts 2) = F := ⟨_, rfl⟩
    have HFX := Lib.hid (fun i (hi : i < 11) w => by
      have h := run_index_bs w (firsts 2) i ((firsts 2).getD i 0) (by rw [List.getD_eq_getElem?_getD, List.getElem?_eq_getElem (show i < (firsts 2).length from hi), Option.getD_some])
      rw [hF] at h
      exact h)
    have HFS := Lib.hid (show F.size = 11 from by rw [← hF]; rfl)
    have HF := Lib.hid hF
    have HS6 := Lib.hid (show (bs (c :: r)).size ≤ 1000000 from by rw [bs_size]; exact hs)
    have HCM := Lib.hid (fun z => beq_bs (c :: r) z)
    have HCM2 := Lib.hid (fun z => beq_bs z (c :: r))
    have HSL := Lib.hid (show (bs (c :: r)).size = (c :: r).length from bs_size _)
    have HEX := Lib.hid (fun i => hundert_at (s := c :: r) (i := i))
    generalize bs (c :: r) = S at *
    clear hF
    go_enter Tryd.func24, Tryd.ntmps24
    go_wp2_with fail
    rw [show ({ data := #[99, 100, 109, 110, 111, 113, 115, 116, 117, 118, 121] } : ByteArray) = F from HF.out]
    have hF8 := HFS.out
    go_loopw [6, 7] (fun bv iv wr => ∃ i : Nat, iv = .int .i64 i ∧ i ≤ 11 ∧ bv = .bool (((firsts 2).take i).contains c) ∧ Below w.heap.size w wr) (fun _ iv _ => 11 - (intOf iv).toNat)
    case atStart => exact ⟨0, rfl, by decide, rfl, (Below.refl _ _).alloc (Nat.le_refl _) _⟩
    case round =>
      obtain ⟨i, rfl, hi, rfl, hB⟩ := hrel
      have BB := Lib.hid hB
      clear hB
      obtain ⟨G, hG⟩ : ∃ G, ((firsts 2).take i).contains c = G := ⟨_, rfl⟩
      rw [hG]
      by_cases hlt : i < 11
      · have hx : (firsts 2)[i]? = some ((firsts 2).getD i 0) := by rw [List.getD_eq_getElem?_getD, List.getElem?_eq_getElem (show i < (firsts 2).length from hlt), Option.getD_some]
        have HT := Lib.hid (take_contains (c := c) hx)
        rw [hG] at HT
        have hr0 := HI.out
        simp only [show ((0 : Nat) : Int) = 0 from rfl] at hr0
        have hr1 := HFX.out i hlt
        generalize (firsts 2).getD i 0 = x at *
        clear hx hG
        cases G with
        | true =>
          go_upto_region 8 with (fail)
          go_quiet (fail)
          go_wp2_with fail
          go_roundw
          case rel => exact ⟨i + 1, by go_num, by omega, by rw [HT.out]; rfl, by first | exact BB.out | exact below_drewN BB.out _⟩
          case measure => simp [intOf]; omega
        | false =>
          obtain ⟨E, hE⟩ : ∃ E, decide (x = c) = E := ⟨_, rfl⟩
          have hxb : ((x.toNat : Int) == c.toNat) = E := by
            rw [← hE, Bool.eq_iff_iff, beq_iff_eq, decide_eq_true_iff]
            exact ⟨fun e => UInt8.toNat_inj.1 (by omega), fun e => by rw [e]⟩
          rw [hE] at HT
          clear hE
          go_upto_region 8 with (fail)
          go_quiet (fail)
          go_wp2_with fail
          go_roundw
          case rel => exact ⟨i + 1, by go_num, by omega, by rw [HT.out]; first | rfl | exact congrArg Value.bool ((Bool.false_or E).symm), by first | exact BB.out | exact below_drewN BB.out _⟩
          case measure => simp [intOf]; omega
      · obtain rfl : i = 11 := by omega
        have hG2 : firstB 2 (c :: r) = G := hG
        cases G with
        | false =>
          have HE := Lib.hid (show D = false from by
            rw [← HD.out]
            cases h : isW 2 (c :: r) with
            | false => rfl
            | true =>
              have h2 := ((rIs_iff (by decide) (c :: r)).1 h).1
              rw [hG2] at h2
              cases h2)
          clear hG hG2
          go_wp2_with fail
          go_ret
          exact ⟨by rw [HE.out]; rfl, BB.out⟩
        | true =>
          have HG2 := Lib.hid hG2
          have HDD := Lib.hid (show D = true ↔ ((c :: r) ∈ words 2 0 ∨ Fd 2 (c :: r) 1000) from by
            rw [← HD.out, rIs_iff (by decide), hG2]
            exact ⟨fun h => h.2, fun h => ⟨rfl, h⟩⟩)
          have HS0 := Lib.hid (show (c :: r) ∈ words 2 0 ↔ (c :: r) = (ones 2).getD 0 [] from List.mem_singleton)
          clear hG hG2
          have CU := Lib.hid (fun W => runits 2 3 (by decide) rfl W)
          have LO := Lib.hid (ones_len (k := 2) (by decide))
          have hcmp := HCM.out ((ones 2).getD 0 [])
          obtain ⟨z, hz⟩ : ∃ z, (ones 2).getD 0 [] = z := ⟨_, rfl⟩
          rw [hz] at hcmp HS0
          have HZ := Lib.hid hz
          obtain ⟨E, hE⟩ : ∃ E, decide ((c :: r) = z) = E := ⟨_, rfl⟩
          rw [hE] at hcmp
          have HEE := Lib.hid hE
          clear hE hz
          go_wp2_with fail
          with_reducible refine Calls.mono (CU.out _) ?_
          rintro e w3 ⟨bu, rfl, hS, hb⟩
          obtain ⟨hlu, hcu⟩ := ssl_at hS (i := 0) (by rw [LO.out]; decide)
          rw [HZ.out] at hcu
          have BB3 := Lib.hid (Below.andThen BB.out hb)
          clear hb hS
          cases E with
          | true =>
            have HE := Lib.hid (show D = true from HDD.out.2 (.inl (HS0.out.2 (of_decide_eq_true HEE.out))))
            go_wp2_with fail
            go_ret
            exact ⟨by rw [HE.out]; rfl, BB3.out⟩
          | false =>
            have HDE := Lib.hid (show D = true ↔ Fd 2 (c :: r) 1000 from HDD.out.trans ⟨fun h => h.resolve_left (fun h => absurd (HS0.out.1 h) (of_decide_eq_false HEE.out)), .inr⟩)
            clear HDD HS0
            go_wp2_with fail
            clear hF8 hlt hcu hcmp CU LO HZ HEE
            go_loopw [8, 9] (fun lv iv wx => ∃ i : Nat, iv = .int .i64 i ∧ (i = 0 ∨ i + 6 ≤ S.size) ∧ lv = .bool (hasTo (c :: r) i) ∧ Below w3.heap.size w3 wx) (fun _ iv _ => S.size - (intOf iv).toNat)
            case atStart => exact ⟨0, rfl, .inl rfl, rfl, Below.refl _ _⟩
            case round =>
              obtain ⟨i, rfl, hi, rfl, hB⟩ := hrel
              have BB4 := Lib.hid (Below.andThen BB3.out hB)
              have BBr := Lib.hid hB
              clear hB
              obtain ⟨G, hG⟩ : ∃ G, hasTo (c :: r) i = G := ⟨_, rfl⟩
              rw [hG]
              have hS6 := HS6.out
              by_cases hlt : i + 7 ≤ S.size
              · have hlti : (i : Int) + 7 ≤ S.size := by omega
                have HT := Lib.hid (hasTo_succ (c :: r) i)
                rw [hG] at HT
                clear hG
                obtain ⟨P, hP⟩ : ∃ P, hundert.isPrefixOf ((c :: r).drop i) = P := ⟨_, rfl⟩
                have hext := (HEX.out i).trans hP
                rw [hP] at HT
                clear hP
                cases G with
                | true =>
                  go_wp2_with fail
                  go_roundw
                  case rel => exact ⟨i + 1, by go_num, .inr (by omega), by rw [HT.out]; rfl, BBr.out⟩
                  case measure => simp [intOf]; omega
                | false =>
                  go_wp2_with fail
                  go_roundw
                  case rel => exact ⟨i + 1, by go_num, .inr (by omega), by rw [HT.out]; exact congrArg Value.bool (Bool.false_or P).symm, BBr.out⟩
                  case measure => simp [intOf]; omega
              · have hlti : ¬ (i : Int) + 7 ≤ S.size := by omega
                have HH := Lib.hid (show hasH (c :: r) = G from by rw [← hG]; exact (hasTo_all (by rcases hi with rfl | h <;> first | exact Nat.zero_le _ | (have := HSL.out; omega)) (by have := HSL.out; omega)).symm)
                clear hG
                go_wp2_with fail
                go_loopw [10] (fun nv wx => ∃ n : Nat, nv = .int .i64 n ∧ 1 ≤ n ∧ n ≤ 1000 ∧ ¬ Fd 2 (c :: r) n ∧ Below w.heap.size w wx) (fun nv _ => 1000 - (intOf nv).toNat)
                case atStart => exact ⟨1, rfl, Nat.le_refl _, by decide, fd_zero 2 _, BB4.out⟩
                case round =>
                  obtain ⟨n, rfl, hn1, hn9, hfd, hB⟩ := hrel
                  have BB5 := Lib.hid hB
                  have HFD := Lib.hid hfd
                  clear hB hfd
                  by_cases hn : n < 1000
                  · have CSm := Lib.hid (fun W => rsmall_any 2 3 (by decide) rfl n true n rfl hn1 hn W)
                    rw [(r_small (k := 2) (by decide) hn hn1).1] at CSm
                    have CT := Lib.hid (fun W => rthousand_any 2 3 (by decide) rfl n n rfl hn1 hn W)
                    rw [(r_small (k := 2) (by decide) hn hn1).2] at CT
                    have LR := Lib.hid (words_len 2 (show n < 1000000 by omega))
                    have LT := Lib.hid (words_len 2 (show 1000 * n < 1000000 by omega))
                    have HYS := Lib.hid (fun (ha : asked n = true ∨ G = true) i h => HDE.out.2 (fd_yes (s := c :: r) (i := i) hn1 hn (ha.imp id (fun h => HH.out.trans h)) h))
                    have HNO := Lib.hid (fun h1 h2 => fd_not HFD.out h1 h2)
                    have HSK := Lib.hid (fun h1 h2 => fd_skip HFD.out h1 (HH.out.trans h2))
                    rcases (show (¬ 99 < n) ∨ (99 < n ∧ ¬ 1 < n % 100) ∨ (99 < n ∧ 1 < n % 100) by omega) with q1 | ⟨q1, q2⟩ | ⟨q1, q2⟩
                    · have q1i : ¬ (99 : Int) < n := by omega
                      have HA := Lib.hid (HYS.out (.inl (asked_yes (.inl (by omega)))))
                      clear HYS HSK
                      go_wp2_with fail
                      with_reducible refine Calls.mono (CSm.out _) ?_
                      rintro e w4 ⟨v, rfl, ho, hb⟩
                      obtain ⟨oR, cR, rfl, -, -, -, hsl⟩ := ho.form
                      have SR := Lib.hid hsl
                      have BB6 := Lib.hid (Below.andThen BB5.out hb)
                      clear ho hb hsl
                      go_wp2_with fail
                      with_reducible refine Calls.mono (CT.out _) ?_
                      rintro e w5 ⟨v, rfl, ho, hb⟩
                      obtain ⟨oT, cT, rfl, -, -, -, hsl⟩ := ho.form
                      obtain ⟨bR, fR, rfl, lR, hcR⟩ := (SR.out.next hb).cells (fun h => by have := LR.out.1; rw [h] at this; simp at this)
                      obtain ⟨bT, fT, rfl, lT, hcT⟩ := hsl.cells (fun h => by have := LT.out.1; rw [h] at this; simp at this)
                      have BB7 := Lib.hid (Below.andThen BB6.out hb)
                      have CR2 := Lib.hid (fun (W : World) (h : Below w5.heap.size w5 W) i (hi : i < (words 2 n).length) => (show W.cell? ⟨bR, fR + i, none⟩ = some (sV ((words 2 n).getD i [])) from (h.cell (p := ⟨bR, fR + i, none⟩) lR).trans (hcR i _ (by rw [List.getD_eq_getElem?_getD, List.getElem?_eq_getElem hi]; rfl))))
                      have CT2 := Lib.hid (fun (W : World) (h : Below w5.heap.size w5 W) i (hi : i < (words 2 (1000 * n)).length) => (show W.cell? ⟨bT, fT + i, none⟩ = some (sV ((words 2 (1000 * n)).getD i [])) from (h.cell (p := ⟨bT, fT + i, none⟩) lT).trans (hcT i _ (by rw [List.getD_eq_getElem?_getD, List.getElem?_eq_getElem hi]; rfl))))
                      have LR1 := LR.out.2
                      have LT1 := LT.out.2
                      clear ho hb hsl SR hcR hcT LR LT CSm CT BB5 BB6
                      generalize words 2 n = R at *
                      generalize words 2 (1000 * n) = T at *
                      go_wp2_with fail
                      go_loopw [13] (fun jv wx => ∃ i : Nat, jv = .int .i64 i ∧ i ≤ R.length ∧ (∀ i', i' < i → R.getD i' [] ≠ c :: r) ∧ Below w5.heap.size w5 wx) (fun jv _ => R.length - (intOf jv).toNat)
                      case atStart => exact ⟨0, rfl, Nat.zero_le _, fun i' h => absurd h (Nat.not_lt_zero _), Below.refl _ _⟩
                      case round =>
                        obtain ⟨i, rfl, hi, hno, hB⟩ := hrel
                        have BBr := Lib.hid hB
                        have HN := Lib.hid hno
                        clear hB hno
                        by_cases hlt : i < R.length
                        · have hcx := CR2.out _ BBr.out i hlt
                          have HAx := Lib.hid (fun h => HA.out i (.inl ⟨hlt, h⟩))
                          obtain ⟨z, hz⟩ : ∃ z, R.getD i [] = z := ⟨_, rfl⟩
                          have HZ := Lib.hid hz
                          rw [hz] at hcx HAx
                          have hcmp := HCM2.out z
                          obtain ⟨E, hE⟩ : ∃ E, decide (z = c :: r) = E := ⟨_, rfl⟩
                          rw [hE] at hcmp
                          have HEE := Lib.hid hE
                          clear hE hz
                          cases E with
                          | true =>
                            have HE := Lib.hid (HAx.out (of_decide_eq_true HEE.out))
                            go_wp2_with fail
                            go_ret
                            exact ⟨by rw [HE.out]; rfl, Below.andThen BB7.out BBr.out⟩
                          | false =>
                            go_wp2_with fail
                            go_roundw
                            case rel =>
                              refine ⟨i + 1, by go_num, by omega, fun i' h => ?_, BBr.out⟩
                              rcases Nat.lt_succ_iff_lt_or_eq.1 h with h | rfl
                              · exact HN.out i' h
                              · rw [HZ.out]; exact of_decide_eq_false HEE.out
                            case measure => simp [intOf]; omega
                        · obtain rfl : i = R.length := by omega
                          have HNR := Lib.hid (fun i' (h : i' < R.length) => HN.out i' h)
                          go_wp2_with fail
                          clear HN
                          go_loopw [14] (fun jv wx => ∃ i : Nat, jv = .int .i64 i ∧ i ≤ T.length ∧ (∀ i', i' < i → T.getD i' [] ≠ c :: r) ∧ Below w5.heap.size w5 wx) (fun jv _ => T.length - (intOf jv).toNat)
                          case atStart => exact ⟨0, rfl, Nat.zero_le _, fun i' h => absurd h (Nat.not_lt_zero _), BBr.out⟩
                          case round =>
                            obtain ⟨i, rfl, hi, hno, hB⟩ := hrel
                            have BBr := Lib.hid hB
                            have HN := Lib.hid hno
                            clear hB hno
                            by_cases hlt : i < T.length
                            · have hcx := CT2.out _ BBr.out i hlt
                              have HAx := Lib.hid (fun h => HA.out i (.inr ⟨hlt, h⟩))
                              obtain ⟨z, hz⟩ : ∃ z, T.getD i [] = z := ⟨_, rfl⟩
                              have HZ := Lib.hid hz
                              rw [hz] at hcx HAx
                              have hcmp := HCM2.out z
                              obtain ⟨E, hE⟩ : ∃ E, decide (z = c :: r) = E := ⟨_, rfl⟩
                              rw [hE] at hcmp
                              have HEE := Lib.hid hE
                              clear hE hz
                              cases E with
                              | true =>
                                have HE := Lib.hid (HAx.out (of_decide_eq_true HEE.out))
                                go_wp2_with fail
                                go_ret
                                exact ⟨by rw [HE.out]; rfl, Below.andThen BB7.out BBr.out⟩
                              | false =>
                                go_wp2_with fail
                                go_roundw
                                case rel =>
                                  refine ⟨i + 1, by go_num, by omega, fun i' h => ?_, BBr.out⟩
                                  rcases Nat.lt_succ_iff_lt_or_eq.1 h with h | rfl
                                  · exact HN.out i' h
                                  · rw [HZ.out]; exact of_decide_eq_false HEE.out
                                case measure => simp [intOf]; omega
                            · obtain rfl : i = T.length := by omega
                              go_wp2_with fail
                              go_roundw
                              case rel => exact ⟨n + 1, by go_num, by omega, by omega, HNO.out HNR.out HN.out, Below.andThen BB7.out BBr.out⟩
                              case measure => simp [intOf]; omega
                    · have q1i : (99 : Int) < n := by omega
                      have q2i : ¬ (1 : Int) < (n : Int) % 100 := by omega
                      have q2t : ¬ (1 : Int) < (n : Int).tmod 100 := by rw [Int.tmod_eq_emod_of_nonneg (by omega)]; omega
                      have HA := Lib.hid (HYS.out (.inl (asked_yes (.inr (by omega)))))
                      clear HYS HSK
                      go_wp2_with fail
                      with_reducible refine Calls.mono (CSm.out _) ?_
                      rintro e w4 ⟨v, rfl, ho, hb⟩
                      obtain ⟨oR, cR, rfl, -, -, -, hsl⟩ := ho.form
                      have SR := Lib.hid hsl
                      have BB6 := Lib.hid (Below.andThen BB5.out hb)
                      clear ho hb hsl
                      go_wp2_with fail
                      with_reducible refine Calls.mono (CT.out _) ?_
                      rintro e w5 ⟨v, rfl, ho, hb⟩
                      obtain ⟨oT, cT, rfl, -, -, -, hsl⟩ := ho.form
                      obtain ⟨bR, fR, rfl, lR, hcR⟩ := (SR.out.next hb).cells (fun h => by have := LR.out.1; rw [h] at this; simp at this)
                      obtain ⟨bT, fT, rfl, lT, hcT⟩ := hsl.cells (fun h => by have := LT.out.1; rw [h] at this; simp at this)
                      have BB7 := Lib.hid (Below.andThen BB6.out hb)
                      have CR2 := Lib.hid (fun (W : World) (h : Below w5.heap.size w5 W) i (hi : i < (words 2 n).length) => (show W.cell? ⟨bR, fR + i, none⟩ = some (sV ((words 2 n).getD i [])) from (h.cell (p := ⟨bR, fR + i, none⟩) lR).trans (hcR i _ (by rw [List.getD_eq_getElem?_getD, List.getElem?_eq_getElem hi]; rfl))))
                      have CT2 := Lib.hid (fun (W : World) (h : Below w5.heap.size w5 W) i (hi : i < (words 2 (1000 * n)).length) => (show W.cell? ⟨bT, fT + i, none⟩ = some (sV ((words 2 (1000 * n)).getD i [])) from (h.cell (p := ⟨bT, fT + i, none⟩) lT).trans (hcT i _ (by rw [List.getD_eq_getElem?_getD, List.getElem?_eq_getElem hi]; rfl))))
                      have LR1 := LR.out.2
                      have LT1 := LT.out.2
                      clear ho hb hsl SR hcR hcT LR LT CSm CT BB5 BB6
                      generalize words 2 n = R at *
                      generalize words 2 (1000 * n) = T at *
                      go_wp2_with fail
                      go_loopw [13] (fun jv wx => ∃ i : Nat, jv = .int .i64 i ∧ i ≤ R.length ∧ (∀ i', i' < i → R.getD i' [] ≠ c :: r) ∧ Below w5.heap.size w5 wx) (fun jv _ => R.length - (intOf jv).toNat)
                      case atStart => exact ⟨0, rfl, Nat.zero_le _, fun i' h => absurd h (Nat.not_lt_zero _), Below.refl _ _⟩
                      case round =>
                        obtain ⟨i, rfl, hi, hno, hB⟩ := hrel
                        have BBr := Lib.hid hB
                        have HN := Lib.hid hno
                        clear hB hno
                        by_cases hlt : i < R.length
                        · have hcx := CR2.out _ BBr.out i hlt
                          have HAx := Lib.hid (fun h => HA.out i (.inl ⟨hlt, h⟩))
                          obtain ⟨z, hz⟩ : ∃ z, R.getD i [] = z := ⟨_, rfl⟩
                          have HZ := Lib.hid hz
                          rw [hz] at hcx HAx
                          have hcmp := HCM2.out z
                          obtain ⟨E, hE⟩ : ∃ E, decide (z = c :: r) = E := ⟨_, rfl⟩
                          rw [hE] at hcmp
                          have HEE := Lib.hid hE
                          clear hE hz
                          cases E with
                          | true =>
                            have HE := Lib.hid (HAx.out (of_decide_eq_true HEE.out))
                            go_wp2_with fail
                            go_ret
                            exact ⟨by rw [HE.out]; rfl, Below.andThen BB7.out BBr.out⟩
                          | false =>
                            go_wp2_with fail
                            go_roundw
                            case rel =>
                              refine ⟨i + 1, by go_num, by omega, fun i' h => ?_, BBr.out⟩
                              rcases Nat.lt_succ_iff_lt_or_eq.1 h with h | rfl
                              · exact HN.out i' h
                              · rw [HZ.out]; exact of_decide_eq_false HEE.out
                            case measure => simp [intOf]; omega
                        · obtain rfl : i = R.length := by omega
                          have HNR := Lib.hid (fun i' (h : i' < R.length) => HN.out i' h)
                          go_wp2_with fail
                          clear HN
                          go_loopw [14] (fun jv wx => ∃ i : Nat, jv = .int .i64 i ∧ i ≤ T.length ∧ (∀ i', i' < i → T.getD i' [] ≠ c :: r) ∧ Below w5.heap.size w5 wx) (fun jv _ => T.length - (intOf jv).toNat)
                          case atStart => exact ⟨0, rfl, Nat.zero_le _, fun i' h => absurd h (Nat.not_lt_zero _), BBr.out⟩
                          case round =>
                            obtain ⟨i, rfl, hi, hno, hB⟩ := hrel
                            have BBr := Lib.hid hB
                            have HN := Lib.hid hno
                            clear hB hno
                            by_cases hlt : i < T.length
                            · have hcx := CT2.out _ BBr.out i hlt
                              have HAx := Lib.hid (fun h => HA.out i (.inr ⟨hlt, h⟩))
                              obtain ⟨z, hz⟩ : ∃ z, T.getD i [] = z := ⟨_, rfl⟩
                              have HZ := Lib.hid hz
                              rw [hz] at hcx HAx
                              have hcmp := HCM2.out z
                              obtain ⟨E, hE⟩ : ∃ E, decide (z = c :: r) = E := ⟨_, rfl⟩
                              rw [hE] at hcmp
                              have HEE := Lib.hid hE
                              clear hE hz
                              cases E with
                              | true =>
                                have HE := Lib.hid (HAx.out (of_decide_eq_true HEE.out))
                                go_wp2_with fail
                                go_ret
                                exact ⟨by rw [HE.out]; rfl, Below.andThen BB7.out BBr.out⟩
                              | false =>
                                go_wp2_with fail
                                go_roundw
                                case rel =>
                                  refine ⟨i + 1, by go_num, by omega, fun i' h => ?_, BBr.out⟩
                                  rcases Nat.lt_succ_iff_lt_or_eq.1 h with h | rfl
                                  · exact HN.out i' h
                                  · rw [HZ.out]; exact of_decide_eq_false HEE.out
                                case measure => simp [intOf]; omega
                            · obtain rfl : i = T.length := by omega
                              go_wp2_with fail
                              go_roundw
                              case rel => exact ⟨n + 1, by go_num, by omega, by omega, HNO.out HNR.out HN.out, Below.andThen BB7.out BBr.out⟩
                              case measure => simp [intOf]; omega
                    · have q1i : (99 : Int) < n := by omega
                      have q2i : (1 : Int) < (n : Int) % 100 := by omega
                      have q2t : (1 : Int) < (n : Int).tmod 100 := by rw [Int.tmod_eq_emod_of_nonneg (by omega)]; omega
                      cases G with
                      | true =>
                        have HA := Lib.hid (HYS.out (.inr rfl))
                        clear HYS HSK
                        go_wp2_with fail
                        with_reducible refine Calls.mono (CSm.out _) ?_
                        rintro e w4 ⟨v, rfl, ho, hb⟩
                        obtain ⟨oR, cR, rfl, -, -, -, hsl⟩ := ho.form
                        have SR := Lib.hid hsl
                        have BB6 := Lib.hid (Below.andThen BB5.out hb)
                        clear ho hb hsl
                        go_wp2_with fail
                        with_reducible refine Calls.mono (CT.out _) ?_
                        rintro e w5 ⟨v, rfl, ho, hb⟩
                        obtain ⟨oT, cT, rfl, -, -, -, hsl⟩ := ho.form
                        obtain ⟨bR, fR, rfl, lR, hcR⟩ := (SR.out.next hb).cells (fun h => by have := LR.out.1; rw [h] at this; simp at this)
                        obtain ⟨bT, fT, rfl, lT, hcT⟩ := hsl.cells (fun h => by have := LT.out.1; rw [h] at this; simp at this)
                        have BB7 := Lib.hid (Below.andThen BB6.out hb)
                        have CR2 := Lib.hid (fun (W : World) (h : Below w5.heap.size w5 W) i (hi : i < (words 2 n).length) => (show W.cell? ⟨bR, fR + i, none⟩ = some (sV ((words 2 n).getD i [])) from (h.cell (p := ⟨bR, fR + i, none⟩) lR).trans (hcR i _ (by rw [List.getD_eq_getElem?_getD, List.getElem?_eq_getElem hi]; rfl))))
                        have CT2 := Lib.hid (fun (W : World) (h : Below w5.heap.size w5 W) i (hi : i < (words 2 (1000 * n)).length) => (show W.cell? ⟨bT, fT + i, none⟩ = some (sV ((words 2 (1000 * n)).getD i [])) from (h.cell (p := ⟨bT, fT + i, none⟩) lT).trans (hcT i _ (by rw [List.getD_eq_getElem?_getD, List.getElem?_eq_getElem hi]; rfl))))
                        have LR1 := LR.out.2
                        have LT1 := LT.out.2
                        clear ho hb hsl SR hcR hcT LR LT CSm CT BB5 BB6
                        generalize words 2 n = R at *
                        generalize words 2 (1000 * n) = T at *
                        go_wp2_with fail
                        go_loopw [13] (fun jv wx => ∃ i : Nat, jv = .int .i64 i ∧ i ≤ R.length ∧ (∀ i', i' < i → R.getD i' [] ≠ c :: r) ∧ Below w5.heap.size w5 wx) (fun jv _ => R.length - (intOf jv).toNat)
                        case atStart => exact ⟨0, rfl, Nat.zero_le _, fun i' h => absurd h (Nat.not_lt_zero _), Below.refl _ _⟩
                        case round =>
                          obtain ⟨i, rfl, hi, hno, hB⟩ := hrel
                          have BBr := Lib.hid hB
                          have HN := Lib.hid hno
                          clear hB hno
                          by_cases hlt : i < R.length
                          · have hcx := CR2.out _ BBr.out i hlt
                            have HAx := Lib.hid (fun h => HA.out i (.inl ⟨hlt, h⟩))
                            obtain ⟨z, hz⟩ : ∃ z, R.getD i [] = z := ⟨_, rfl⟩
                            have HZ := Lib.hid hz
                            rw [hz] at hcx HAx
                            have hcmp := HCM2.out z
                            obtain ⟨E, hE⟩ : ∃ E, decide (z = c :: r) = E := ⟨_, rfl⟩
                            rw [hE] at hcmp
                            have HEE := Lib.hid hE
                            clear hE hz
                            cases E with
                            | true =>
                              have HE := Lib.hid (HAx.out (of_decide_eq_true HEE.out))
                              go_wp2_with fail
                              go_ret
                              exact ⟨by rw [HE.out]; rfl, Below.andThen BB7.out BBr.out⟩
                            | false =>
                              go_wp2_with fail
                              go_roundw
                              case rel =>
                                refine ⟨i + 1, by go_num, by omega, fun i' h => ?_, BBr.out⟩
                                rcases Nat.lt_succ_iff_lt_or_eq.1 h with h | rfl
                                · exact HN.out i' h
                                · rw [HZ.out]; exact of_decide_eq_false HEE.out
                              case measure => simp [intOf]; omega
                          · obtain rfl : i = R.length := by omega
                            have HNR := Lib.hid (fun i' (h : i' < R.length) => HN.out i' h)
                            go_wp2_with fail
                            clear HN
                            go_loopw [14] (fun jv wx => ∃ i : Nat, jv = .int .i64 i ∧ i ≤ T.length ∧ (∀ i', i' < i → T.getD i' [] ≠ c :: r) ∧ Below w5.heap.size w5 wx) (fun jv _ => T.length - (intOf jv).toNat)
                            case atStart => exact ⟨0, rfl, Nat.zero_le _, fun i' h => absurd h (Nat.not_lt_zero _), BBr.out⟩
                            case round =>
                              obtain ⟨i, rfl, hi, hno, hB⟩ := hrel
                              have BBr := Lib.hid hB
                              have HN := Lib.hid hno
                              clear hB hno
                              by_cases hlt : i < T.length
                              · have hcx := CT2.out _ BBr.out i hlt
                                have HAx := Lib.hid (fun h => HA.out i (.inr ⟨hlt, h⟩))
                                obtain ⟨z, hz⟩ : ∃ z, T.getD i [] = z := ⟨_, rfl⟩
                                have HZ := Lib.hid hz
                                rw [hz] at hcx HAx
                                have hcmp := HCM2.out z
                                obtain ⟨E, hE⟩ : ∃ E, decide (z = c :: r) = E := ⟨_, rfl⟩
                                rw [hE] at hcmp
                                have HEE := Lib.hid hE
                                clear hE hz
                                cases E with
                                | true =>
                                  have HE := Lib.hid (HAx.out (of_decide_eq_true HEE.out))
                                  go_wp2_with fail
                                  go_ret
                                  exact ⟨by rw [HE.out]; rfl, Below.andThen BB7.out BBr.out⟩
                                | false =>
                                  go_wp2_with fail
                                  go_roundw
                                  case rel =>
                                    refine ⟨i + 1, by go_num, by omega, fun i' h => ?_, BBr.out⟩
                                    rcases Nat.lt_succ_iff_lt_or_eq.1 h with h | rfl
                                    · exact HN.out i' h
                                    · rw [HZ.out]; exact of_decide_eq_false HEE.out
                                  case measure => simp [intOf]; omega
                              · obtain rfl : i = T.length := by omega
                                go_wp2_with fail
                                go_roundw
                                case rel => exact ⟨n + 1, by go_num, by omega, by omega, HNO.out HNR.out HN.out, Below.andThen BB7.out BBr.out⟩
                                case measure => simp [intOf]; omega
                      | false =>
                        have HY := Lib.hid (HSK.out (by unfold asked; rw [decide_eq_true q1, decide_eq_true q2]; rfl) rfl)
                        clear HYS HSK HNO
                        go_wp2_with fail
                        go_roundw
                        case rel => exact ⟨n + 1, by go_num, by omega, by omega, HY.out, BB5.out⟩
                        case measure => simp [intOf]; omega
                  · obtain rfl : n = 1000 := by omega
                    have HE := Lib.hid (show D = false from by
                      cases h : D with
                      | false => rfl
                      | true => exact absurd (HDE.out.1 h) HFD.out)
                    go_wp2_with fail
                    go_ret
                    exact ⟨by rw [HE.out]; rfl, BB5.out⟩
end Wo
end Go.Proofs.YtebdpdmkehfgfaaDoor
set_option linter.unusedVariables false
set_option linter.unusedSimpArgs false
namespace Go.Proofs.YtebdpdmkehfgfaaDoor
open Go.RowKit
namespace Wo
theorem rIs_any (L : Int) (s : B) (hs : s.length ≤ 1000000) (w : World) : Calls Tryd.prog 24 #[.int .i64 L, .string (bs s)] w fun e w' => e = .returned (.bool (iO L s)) ∧ Below w.heap.size w w' := by
  by_cases h : okL L
  · have e : iO L s = isW (L - 1).toNat s := if_pos h
    rw [e]
    rcases (show L = 1 ∨ L = 2 ∨ L = 3 by have := h.1; have := h.2; omega) with rfl | rfl | rfl
    · exact rIs_yes0 s w hs
    · exact rIs_yes1 s w hs
    · exact rIs_yes2 s w hs
  · have e : iO L s = false := if_neg h
    rw [e]
    exact rIs_no L (bs s) w h
theorem wO_len (L n : Int) : (wO L n).1.length ≤ 1000000 := by
  by_cases h : okL L ∧ 0 ≤ n ∧ n ≤ 999999
  · have e : wO L n = (words (L - 1).toNat n.toNat, 0) := if_pos h
    rw [e]
    have := (words_len (L - 1).toNat (show n.toNat < 1000000 by have := h.2; omega)).2
    show (words _ _).length ≤ _
    omega
  · have e : wO L n = ([], 110) := if_neg h
    rw [e]
    exact Nat.zero_le _
end Wo
end Go.Proofs.YtebdpdmkehfgfaaDoor
