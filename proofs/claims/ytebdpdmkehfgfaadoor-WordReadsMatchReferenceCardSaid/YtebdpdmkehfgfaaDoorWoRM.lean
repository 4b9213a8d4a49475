/- The reference's Prefix. -/
import Derived.Test.YtebdpdmkehfgfaaDoorWoRL
import Derived.Deep.RegionHeld3
set_option linter.unusedVariables false
set_option linter.unusedSimpArgs false
namespace Go.Proofs.YtebdpdmkehfgfaaDoor
open Go.RowKit
namespace Wo
theorem st_bounds {k : Nat} {l : List B} {a N b m : Nat} (h : St k l a N b m) : b < 1000000 ∧ m ≤ 9 := by
  rcases h.2 with ⟨rfl, rfl⟩ | ⟨h1, h2, h3, rfl⟩
  · exact ⟨by decide, by decide⟩
  · exact ⟨h2, (words_len k h2).2⟩
theorem beg_one {l : List B} {a : Nat} {z : B} (ha : a < l.length) : begB l a [z] = decide (l.getD a [] = z) := by
  unfold begB
  have e : (l.drop a).take [z].length = [l.getD a []] := by
    have h : (l.drop a).head? = some (l.getD a []) := by rw [List.head?_drop]; exact getD_get ha
    cases hd : l.drop a with
    | nil => rw [hd] at h; cases h
    | cons x r => rw [hd] at h; cases h; rfl
  rw [e]
  by_cases h : l.getD a [] = z
  · rw [h]; simp
  · rw [decide_eq_false h]
    exact decide_eq_false fun e => h (List.cons.inj e).1
theorem beg_le {l ws : List B} {a : Nat} (ha : a ≤ l.length) (h : begB l a ws = true) : a + ws.length ≤ l.length := by
  obtain ⟨t, ht⟩ := beg_iff.1 h
  have := congrArg List.length ht
  rw [List.length_drop, List.length_append] at this
  omega
theorem first_below {w wx : World} (h : Below w.drew.heap.size w.drew wx) : Below w.heap.size w wx := Below.andThen ((Below.refl _ _).drew) h
theorem beg_nil (l : List B) (a : Nat) : begB l a [] = true := decide_eq_true (by simp)
set_option maxRecDepth 100000 in
set_option maxHeartbeats 8000000 in
theorem rPrefix_yes (k a : Nat) (hk : k < 3) (L : Int) (hL : L = 1 + k) (b off n c : Nat) (l : List B) (w : World) (ha : a < n) (H : Ws w (some ⟨b, off, none⟩) n c l) :
    Calls Tryd.prog 29 #[.int .i64 L, .slice (some ⟨b, off, none⟩) n c, .int .i64 a] w fun e w' => e = .returned (preV (pre k l a)) ∧ Below w.heap.size w w' := by
  have l1 : ¬ L < 1 := by omega
  have l2 : ¬ 3 < L := by omega
  have l3 : (a : Int) < n := by omega
  have l4 : ¬ (n : Int) ≤ a := by omega
  have hnle := H.nle
  have hlen := H.len
  have HW0 := Lib.hid H
  obtain ⟨b', off', e', hbl, hcl⟩ := H.sl.cells H.ne
  cases e'
  obtain ⟨x, hx⟩ : ∃ x, l.getD a [] = x := ⟨_, rfl⟩
  have c0 := hcl a _ (getD_get (by rw [hlen]; exact ha))
  rw [hx] at c0
  have HBL := Lib.hid hbl
  have CU := Lib.hid (fun W => runits k L hk hL W)
  have LO := Lib.hid (ones_len hk)
  obtain ⟨z, hz⟩ : ∃ z, (ones k).getD 0 [] = z := ⟨_, rfl⟩
  have HZ := Lib.hid hz
  have W0 : words k 0 = [z] := by
    rw [← hz]
    rcases (show k = 0 ∨ k = 1 ∨ k = 2 by omega) with rfl | rfl | rfl <;> rfl
  have hb0 := beg_one (l := l) (z := z) (show a < l.length by rw [hlen]; exact ha)
  rw [hx, ← W0] at hb0
  have hcmp := beq_bs x z
  obtain ⟨G, hG⟩ : ∃ G, decide (x = z) = G := ⟨_, rfl⟩
  rw [hG] at hb0 hcmp
  have HB0 := Lib.hid hb0
  have HL := Lib.hid hL
  obtain ⟨D, hD⟩ : ∃ D, pre k l a = D := ⟨_, rfl⟩
  have HDY := Lib.hid (show G = true → D = some (0, 1) from fun h => by
    rw [← hD]
    exact zero_pre hk (hb0.trans h))
  have HDN := Lib.hid (show ∀ bst m, G = false → St k l a 1000000 bst m → D = if 0 < m then some (bst, m) else none from fun bst m h hst => by
    rw [← hD]
    exact st_end hk hst (hb0.trans h))
  rw [hD]
  have HLN := Lib.hid hlen
  clear H hcl hx hz hb0 hL hD hG W0
  go_enter Tryd.func29, Tryd.ntmps29
  go_upto_region 3 with (fail)
  go_cut [39] (fun v wx => v = .bool G ∧ Below w.heap.size w wx)
  case first =>
    have hB0 : Below w.heap.size w w.drew := (Below.refl _ _).drew
    go_region_with (go_at_call 34; with_reducible refine Calls.mono (CU.out _) ?_; rintro e wx ⟨bu, rfl, hS, hb⟩; have hbx : Below w.heap.size w wx := first_below hb; have hcx := (hbx.cell (p := ⟨b, off + a, none⟩) HBL.out).trans c0; obtain ⟨hlu, hcu⟩ := ssl_at hS (i := 0) (by rw [LO.out]; decide); rw [HZ.out] at hcu)
    all_goals (go_wp2_with fail; go_meet; exact ⟨by first | rfl | exact congrArg Value.bool hcmp, by first | assumption | exact below_more (by assumption) _⟩)
  obtain ⟨rfl, hb⟩ := hcut
  have HW1 := Lib.hid (HW0.out.next hb)
  have BB0 := Lib.hid hb
  clear hb c0 hcmp
  cases G with
  | true =>
    have HE := Lib.hid (HDY.out (by first | rfl | trivial))
    go_wp2_with fail
    go_ret3
    exact ⟨by rw [HE.out]; rfl, BB0.out⟩
  | false =>
    go_wp2_with fail
    go_loopw [9, 10, 11] (fun bv mv qv wr => ∃ best many q : Nat, bv = .int .i64 best ∧ mv = .int .i64 many ∧ qv = .int .i64 q ∧ q ≤ 1000 ∧ (q = 0 → best = 0 ∧ many = 0) ∧ St k l a (max 1 (1000 * q)) best many ∧ Below wc.heap.size wc wr) (fun _ _ qv _ => 1000 - (intOf qv).toNat)
    case atStart => exact ⟨0, 0, 0, rfl, rfl, rfl, Nat.zero_le _, fun _ => ⟨rfl, rfl⟩, st_zero k l a, Below.refl _ _⟩
    case round =>
      obtain ⟨best, many, q, rfl, rfl, rfl, hq9, hq0, hst, hB⟩ := hrel
      have HST := Lib.hid hst
      have BB1 := Lib.hid hB
      have HW := Lib.hid (HW1.out.next hB)
      obtain ⟨hb6, hm9⟩ := st_bounds hst
      clear hst hB
      by_cases hq : q < 1000
      · by_cases hz0 : q = 0
        · obtain ⟨rfl, rfl⟩ := hq0 hz0
          subst hz0
          rw [show ((0 : Nat) : Int) = 0 from rfl]
          have CB := Lib.hid (fun W (H : Ws W (some ⟨b, off, none⟩) n c l) => begins_any (some ⟨b, off, none⟩) none n c 0 0 a (a : Int) rfl l [] W H.len rfl H.nle (by omega) (by omega) H.sl (.inl rfl))
          rw [beg_nil] at CB
          have HPL := Lib.hid (show a ≤ n by omega)
          go_wp2_with fail
          with_reducible refine Calls.mono (CB.out _ HW.out) ?_
          rintro e W1 ⟨rfl, hb⟩
          have HW := Lib.hid (HW.out.next hb)
          have BB1 := Lib.hid (Below.andThen BB1.out hb)
          clear hb
          go_wp2_with fail
          go_loopw [9, 10, 13] (fun bv mv rv wx => ∃ best many r : Nat, bv = .int .i64 best ∧ mv = .int .i64 many ∧ rv = .int .i64 r ∧ 1 ≤ r ∧ r ≤ 1000 ∧ St k l a (r) best many ∧ Below W1.heap.size W1 wx) (fun _ _ rv _ => 1000 - (intOf rv).toNat)
          case atStart => exact ⟨0, 0, 1, by first | rfl | go_num, by first | rfl | go_num, rfl, Nat.le_refl _, by decide, HST.out, Below.refl _ _⟩
          case round =>
            clear HST
            obtain ⟨best, many, r, rfl, rfl, rfl, hr1, hr9, hst, hB⟩ := hrel
            have HST := Lib.hid hst
            have BBx := Lib.hid hB
            have HWx := Lib.hid (HW.out.next hB)
            obtain ⟨hb6, hm9⟩ := st_bounds hst
            clear hst hB
            by_cases hr : r < 1000
            · have CSm := Lib.hid (fun W => rsmall_any k L hk HL.out r true r rfl hr1 hr W)
              rw [(r_small hk hr hr1).1] at CSm
              have LR := Lib.hid (words_len k (show r < 1000000 by omega))
              obtain ⟨R, hR⟩ : ∃ R, words k r = R := ⟨_, rfl⟩
              rw [hR] at CSm LR
              have HRW := Lib.hid hR
              have LR1 := LR.out.1
              have LR2 := LR.out.2
              have hPl := HPL.out
              have hLN := HLN.out
              clear hR
              go_wp2_with fail
              with_reducible refine Calls.mono (CSm.out _) ?_
              rintro e w4 ⟨v, rfl, ho, hb⟩
              obtain ⟨oR, cR, rfl, -, -, -, hsl⟩ := ho.form
              have SR := Lib.hid hsl
              have BB4 := Lib.hid (Below.andThen BBx.out hb)
              have HW4 := Lib.hid (HWx.out.next hb)
              clear ho hb hsl
              by_cases hgt : many < R.length
              · have hgti : (many : Int) < (R.length : Int) := by omega
                have CBg := Lib.hid (fun W (H : Ws W (some ⟨b, off, none⟩) n c l) (hS : SSl W oR R) => begins_any (some ⟨b, off, none⟩) oR n c R.length cR a (a : Int) (rfl) l R W H.len rfl H.nle (by omega) (by omega) H.sl hS)
                cases hB2 : begB l a R with
                | true =>
                  have HY := Lib.hid (show St k l a (r + 1) (r) R.length from by
                    have h := st_yes HST.out (by omega) (by omega) (by rw [HRW.out]; exact hB2) (by rw [HRW.out]; exact hgt)
                    rw [HRW.out] at h
                    exact h)
                  rw [hB2] at CBg
                  clear hB2
                  go_wp2_with fail
                  with_reducible refine Calls.mono (CBg.out _ HW4.out SR.out) ?_
                  rintro e w5 ⟨rfl, hb⟩
                  have BB5 := Lib.hid (Below.andThen BB4.out hb)
                  clear hb
                  go_wp2_with fail
                  go_roundw
                  case rel => exact ⟨r, R.length, r + 1, by go_num, by go_num, by go_num, by omega, by omega, HY.out, BB5.out⟩
                  case measure => simp [intOf]; omega
                | false =>
                  have HY := Lib.hid (st_no HST.out (fun h => by
                    rw [HRW.out, hB2] at h
                    exact absurd h (by simp)))
                  rw [hB2] at CBg
                  clear hB2
                  go_wp2_with fail
                  with_reducible refine Calls.mono (CBg.out _ HW4.out SR.out) ?_
                  rintro e w5 ⟨rfl, hb⟩
                  have BB5 := Lib.hid (Below.andThen BB4.out hb)
                  clear hb
                  go_wp2_with fail
                  go_roundw
                  case rel => exact ⟨best, many, r + 1, rfl, rfl, by go_num, by omega, by omega, HY.out, BB5.out⟩
                  case measure => simp [intOf]; omega
              · have hgti : ¬ (many : Int) < (R.length : Int) := by omega
                have HY := Lib.hid (st_no HST.out (fun _ => by rw [HRW.out]; omega))
                go_wp2_with fail
                go_roundw
                case rel => exact ⟨best, many, r + 1, rfl, rfl, by go_num, by omega, by omega, HY.out, BB4.out⟩
                case measure => simp [intOf]; omega
            · obtain rfl : r = 1000 := by omega
              go_wp2_with fail
              go_roundw
              case rel => exact ⟨best, many, 1, rfl, rfl, by go_num, by decide, fun h => absurd h (by decide), HST.out, Below.andThen BB1.out BBx.out⟩
              case measure => simp [intOf]
        · have hqi : (0 : Int) < q := by omega
          have HQ0 := Lib.hid (show 0 < q by omega)
          clear hq0 hz0
          have CT := Lib.hid (fun W => rthousand_any k L hk HL.out q q rfl HQ0.out hq W)
          rw [(r_small hk hq HQ0.out).2] at CT
          have HST := Lib.hid (show St k l a (1000 * q) best many from by
            have h := HST.out
            rw [show max 1 (1000 * q) = 1000 * q by omega] at h
            exact h)
          have HPW := Lib.hid (show ∀ r, 1 ≤ r → r < 1000 → words k (1000 * q + r) = words k (1000 * q) ++ words k r from fun r h1 h2 => by
            have h := words_split k (n := 1000 * q + r) (by omega) (by omega)
            rw [show 1000 * q + r - (1000 * q + r) % 1000 = 1000 * q by omega, show (1000 * q + r) % 1000 = r by omega] at h
            exact h)
          have LP := Lib.hid (words_len k (show 1000 * q < 1000000 by omega))
          have HSK := Lib.hid (fun h => st_skip hk HST.out HQ0.out hq h)
          have HSN := Lib.hid (fun h => st_no HST.out h)
          have HSY := Lib.hid (fun h h2 => st_yes HST.out (by omega) (by omega) h h2)
          clear HST
          obtain ⟨P, hP⟩ : ∃ P, words k (1000 * q) = P := ⟨_, rfl⟩
          rw [hP] at CT HPW LP HSK HSN HSY
          clear hP
          have LP1 := LP.out.1
          have LP2 := LP.out.2
          go_wp2_with fail
          with_reducible refine Calls.mono (CT.out _) ?_
          rintro e w2 ⟨v, rfl, ho, hb⟩
          obtain ⟨oP, cP, rfl, -, -, -, hsl⟩ := ho.form
          have SP := Lib.hid hsl
          have HW := Lib.hid (HW.out.next hb)
          have BB1 := Lib.hid (Below.andThen BB1.out hb)
          clear ho hb hsl
          have CB := Lib.hid (fun W (H : Ws W (some ⟨b, off, none⟩) n c l) (hS : SSl W oP P) => begins_any (some ⟨b, off, none⟩) oP n c P.length cP a (a : Int) rfl l P W H.len rfl H.nle (by omega) (by omega) H.sl hS)
          cases hBP : begB l a P with
          | false =>
            rw [hBP] at CB
            have HY := Lib.hid (HSK.out hBP)
            clear hBP
            go_wp2_with fail
            with_reducible refine Calls.mono (CB.out _ HW.out SP.out) ?_
            rintro e w3 ⟨rfl, hb⟩
            have BB2 := Lib.hid (Below.andThen BB1.out hb)
            clear hb
            go_wp2_with fail
            go_roundw
            case rel => exact ⟨best, many, q + 1, rfl, rfl, by go_num, by omega, fun h => absurd h (by omega), by rw [show max 1 (1000 * (q + 1)) = 1000 * (q + 1) by omega]; exact HY.out, BB2.out⟩
            case measure => simp [intOf]; omega
          | true =>
            rw [hBP] at CB
            have HBH := Lib.hid hBP
            have HPL := Lib.hid (show a + P.length ≤ n from by
              have h := beg_le (show a ≤ l.length by rw [HLN.out]; omega) hBP
              rw [HLN.out] at h
              exact h)
            clear hBP
            go_wp2_with fail
            with_reducible refine Calls.mono (CB.out _ HW.out SP.out) ?_
            rintro e W1 ⟨rfl, hb⟩
            have HW := Lib.hid (HW.out.next hb)
            have BB1 := Lib.hid (Below.andThen BB1.out hb)
            clear hb
            by_cases hmP : many < P.length
            · have hmPi : (many : Int) < P.length := by omega
              have HST := Lib.hid (HSY.out HBH.out hmP)
              clear HSY HSN HSK
              go_wp2_with fail
              go_loopw [9, 10, 13] (fun bv mv rv wx => ∃ best many r : Nat, bv = .int .i64 best ∧ mv = .int .i64 many ∧ rv = .int .i64 r ∧ 1 ≤ r ∧ r ≤ 1000 ∧ St k l a (1000 * q + r) best many ∧ Below W1.heap.size W1 wx) (fun _ _ rv _ => 1000 - (intOf rv).toNat)
              case atStart => exact ⟨1000 * q, P.length, 1, by first | rfl | go_num, by first | rfl | go_num, rfl, Nat.le_refl _, by decide, HST.out, Below.refl _ _⟩
              case round =>
                clear HST
                obtain ⟨best, many, r, rfl, rfl, rfl, hr1, hr9, hst, hB⟩ := hrel
                have HST := Lib.hid hst
                have BBx := Lib.hid hB
                have HWx := Lib.hid (HW.out.next hB)
                obtain ⟨hb6, hm9⟩ := st_bounds hst
                clear hst hB
                by_cases hr : r < 1000
                · have CSm := Lib.hid (fun W => rsmall_any k L hk HL.out r true r rfl hr1 hr W)
                  rw [(r_small hk hr hr1).1] at CSm
                  have LR := Lib.hid (words_len k (show r < 1000000 by omega))
                  obtain ⟨R, hR⟩ : ∃ R, words k r = R := ⟨_, rfl⟩
                  rw [hR] at CSm LR
                  have HRW := Lib.hid ((HPW.out r hr1 hr).trans (congrArg (P ++ ·) hR))
                  have LR1 := LR.out.1
                  have LR2 := LR.out.2
                  have hPl := HPL.out
                  have hLN := HLN.out
                  clear hR
                  go_wp2_with fail
                  with_reducible refine Calls.mono (CSm.out _) ?_
                  rintro e w4 ⟨v, rfl, ho, hb⟩
                  obtain ⟨oR, cR, rfl, -, -, -, hsl⟩ := ho.form
                  have SR := Lib.hid hsl
                  have BB4 := Lib.hid (Below.andThen BBx.out hb)
                  have HW4 := Lib.hid (HWx.out.next hb)
                  clear ho hb hsl
                  by_cases hgt : many < (P.length + R.length)
                  · have hgti : (many : Int) < (P.length : Int) + R.length := by omega
                    have CBg := Lib.hid (fun W (H : Ws W (some ⟨b, off, none⟩) n c l) (hS : SSl W oR R) => begins_any (some ⟨b, off, none⟩) oR n c R.length cR (a + P.length) ((a : Int) + P.length) (by omega) l R W H.len rfl H.nle (by omega) (by omega) H.sl hS)
                    cases hB2 : begB l (a + P.length) R with
                    | true =>
                      have HY := Lib.hid (show St k l a (1000 * q + r + 1) (1000 * q + r) (P.length + R.length) from by
                        have h := st_yes HST.out (by omega) (by omega) (by rw [HRW.out, beg_app HBH.out]; exact hB2) (by rw [HRW.out, List.length_append]; exact hgt)
                        rw [HRW.out, List.length_append] at h
                        exact h)
                      rw [hB2] at CBg
                      clear hB2
                      go_wp2_with fail
                      with_reducible refine Calls.mono (CBg.out _ HW4.out SR.out) ?_
                      rintro e w5 ⟨rfl, hb⟩
                      have BB5 := Lib.hid (Below.andThen BB4.out hb)
                      clear hb
                      go_wp2_with fail
                      go_roundw
                      case rel => exact ⟨1000 * q + r, (P.length + R.length), r + 1, by go_num, by go_num, by go_num, by omega, by omega, HY.out, BB5.out⟩
                      case measure => simp [intOf]; omega
                    | false =>
                      have HY := Lib.hid (st_no HST.out (fun h => by
                        rw [HRW.out, beg_app HBH.out, hB2] at h
                        exact absurd h (by simp)))
                      rw [hB2] at CBg
                      clear hB2
                      go_wp2_with fail
                      with_reducible refine Calls.mono (CBg.out _ HW4.out SR.out) ?_
                      rintro e w5 ⟨rfl, hb⟩
                      have BB5 := Lib.hid (Below.andThen BB4.out hb)
                      clear hb
                      go_wp2_with fail
                      go_roundw
                      case rel => exact ⟨best, many, r + 1, rfl, rfl, by go_num, by omega, by omega, HY.out, BB5.out⟩
                      case measure => simp [intOf]; omega
                  · have hgti : ¬ (many : Int) < (P.length : Int) + R.length := by omega
                    have HY := Lib.hid (st_no HST.out (fun _ => by rw [HRW.out, List.length_append]; omega))
                    go_wp2_with fail
                    go_roundw
                    case rel => exact ⟨best, many, r + 1, rfl, rfl, by go_num, by omega, by omega, HY.out, BB4.out⟩
                    case measure => simp [intOf]; omega
                · obtain rfl : r = 1000 := by omega
                  go_wp2_with fail
                  go_roundw
                  case rel => exact ⟨best, many, q + 1, rfl, rfl, by go_num, by omega, fun h => absurd h (by omega), by rw [show max 1 (1000 * (q + 1)) = 1000 * q + 1000 by omega]; exact HST.out, Below.andThen BB1.out BBx.out⟩
                  case measure => simp [intOf]; omega
            · have hmPi : ¬ (many : Int) < P.length := by omega
              have HST := Lib.hid (HSN.out (fun _ => by omega))
              clear HSY HSN HSK
              go_wp2_with fail
              go_loopw [9, 10, 13] (fun bv mv rv wx => ∃ best many r : Nat, bv = .int .i64 best ∧ mv = .int .i64 many ∧ rv = .int .i64 r ∧ 1 ≤ r ∧ r ≤ 1000 ∧ St k l a (1000 * q + r) best many ∧ Below W1.heap.size W1 wx) (fun _ _ rv _ => 1000 - (intOf rv).toNat)
              case atStart => exact ⟨best, many, 1, by first | rfl | go_num, by first | rfl | go_num, rfl, Nat.le_refl _, by decide, HST.out, Below.refl _ _⟩
              case round =>
                clear HST
                obtain ⟨best, many, r, rfl, rfl, rfl, hr1, hr9, hst, hB⟩ := hrel
                have HST := Lib.hid hst
                have BBx := Lib.hid hB
                have HWx := Lib.hid (HW.out.next hB)
                obtain ⟨hb6, hm9⟩ := st_bounds hst
                clear hst hB
                by_cases hr : r < 1000
                · have CSm := Lib.hid (fun W => rsmall_any k L hk HL.out r true r rfl hr1 hr W)
                  rw [(r_small hk hr hr1).1] at CSm
                  have LR := Lib.hid (words_len k (show r < 1000000 by omega))
                  obtain ⟨R, hR⟩ : ∃ R, words k r = R := ⟨_, rfl⟩
                  rw [hR] at CSm LR
                  have HRW := Lib.hid ((HPW.out r hr1 hr).trans (congrArg (P ++ ·) hR))
                  have LR1 := LR.out.1
                  have LR2 := LR.out.2
                  have hPl := HPL.out
                  have hLN := HLN.out
                  clear hR
                  go_wp2_with fail
                  with_reducible refine Calls.mono (CSm.out _) ?_
                  rintro e w4 ⟨v, rfl, ho, hb⟩
                  obtain ⟨oR, cR, rfl, -, -, -, hsl⟩ := ho.form
                  have SR := Lib.hid hsl
                  have BB4 := Lib.hid (Below.andThen BBx.out hb)
                  have HW4 := Lib.hid (HWx.out.next hb)
                  clear ho hb hsl
                  by_cases hgt : many < (P.length + R.length)
                  · have hgti : (many : Int) < (P.length : Int) + R.length := by omega
                    have CBg := Lib.hid (fun W (H : Ws W (some ⟨b, off, none⟩) n c l) (hS : SSl W oR R) => begins_any (some ⟨b, off, none⟩) oR n c R.length cR (a + P.length) ((a : Int) + P.length) (by omega) l R W H.len rfl H.nle (by omega) (by omega) H.sl hS)
                    cases hB2 : begB l (a + P.length) R with
                    | true =>
                      have HY := Lib.hid (show St k l a (1000 * q + r + 1) (1000 * q + r) (P.length + R.length) from by
                        have h := st_yes HST.out (by omega) (by omega) (by rw [HRW.out, beg_app HBH.out]; exact hB2) (by rw [HRW.out, List.length_append]; exact hgt)
                        rw [HRW.out, List.length_append] at h
                        exact h)
                      rw [hB2] at CBg
                      clear hB2
                      go_wp2_with fail
                      with_reducible refine Calls.mono (CBg.out _ HW4.out SR.out) ?_
                      rintro e w5 ⟨rfl, hb⟩
                      have BB5 := Lib.hid (Below.andThen BB4.out hb)
                      clear hb
                      go_wp2_with fail
                      go_roundw
                      case rel => exact ⟨1000 * q + r, (P.length + R.length), r + 1, by go_num, by go_num, by go_num, by omega, by omega, HY.out, BB5.out⟩
                      case measure => simp [intOf]; omega
                    | false =>
                      have HY := Lib.hid (st_no HST.out (fun h => by
                        rw [HRW.out, beg_app HBH.out, hB2] at h
                        exact absurd h (by simp)))
                      rw [hB2] at CBg
                      clear hB2
                      go_wp2_with fail
                      with_reducible refine Calls.mono (CBg.out _ HW4.out SR.out) ?_
                      rintro e w5 ⟨rfl, hb⟩
                      have BB5 := Lib.hid (Below.andThen BB4.out hb)
                      clear hb
                      go_wp2_with fail
                      go_roundw
                      case rel => exact ⟨best, many, r + 1, rfl, rfl, by go_num, by omega, by omega, HY.out, BB5.out⟩
                      case measure => simp [intOf]; omega
                  · have hgti : ¬ (many : Int) < (P.length : Int) + R.length := by omega
                    have HY := Lib.hid (st_no HST.out (fun _ => by rw [HRW.out, List.length_append]; omega))
                    go_wp2_with fail
                    go_roundw
                    case rel => exact ⟨best, many, r + 1, rfl, rfl, by go_num, by omega, by omega, HY.out, BB4.out⟩
                    case measure => simp [intOf]; omega
                · obtain rfl : r = 1000 := by omega
                  go_wp2_with fail
                  go_roundw
                  case rel => exact ⟨best, many, q + 1, rfl, rfl, by go_num, by omega, fun h => absurd h (by omega), by rw [show max 1 (1000 * (q + 1)) = 1000 * q + 1000 by omega]; exact HST.out, Below.andThen BB1.out BBx.out⟩
                  case measure => simp [intOf]; omega
      · obtain rfl : q = 1000 := by omega
        have HE := Lib.hid (HDN.out best many (by first | rfl | trivial) HST.out)
        by_cases hm : 0 < many
        · have hmi : (0 : Int) < many := by omega
          have HE2 := Lib.hid (HE.out.trans (if_pos hm))
          go_wp2_with fail
          go_ret3
          exact ⟨by rw [HE2.out]; rfl, Below.andThen BB0.out BB1.out⟩
        · obtain rfl : many = 0 := by omega
          have HE2 := Lib.hid (HE.out.trans (if_neg hm))
          have hbz : best = 0 := by
            rcases HST.out.2 with ⟨_, h⟩ | ⟨_, h2, _, h⟩
            · exact h
            · have := (words_len k h2).1
              omega
          subst hbz
          go_wp2_with fail
          go_ret3
          exact ⟨by rw [HE2.out]; rfl, Below.andThen BB0.out BB1.out⟩
end Wo
end Go.Proofs.YtebdpdmkehfgfaaDoor
