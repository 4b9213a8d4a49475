/- sides, as a contract: the walk. -/
import Derived.Test.YtojfblkmhdgjeaaDoorDigX
namespace Go.Proofs.YtojfblkmhdgjeaaDoor
open Go.RowKit Go.ChangeShapes Go.WideShapes Go.ChangeAt

theorem madeS_one (w : World) {B n : Nat} (x : ByteArray) (hB : B ≤ w.heap.size) (hn : w.heap.size = n) : OwnS (w.alloc (.cells #[.string x] 9)) B (.slice (some ⟨n, 0, none⟩) 1 1) [x] := made_one w x hB hn
/-- what sides returns -/
def SideOut (w : World) (u : ByteArray) (Z : List (Bool × ByteArray)) (L : Nat) (e : Ending) (w' : World) : Prop :=
  ∃ o c, e = .returned (.tuple #[.slice o L c, .string (valW u Z)]) ∧ (o = none → c = 0) ∧ StrSl w' o (wayW u Z) ∧ Below w.heap.size w w'
set_option maxRecDepth 100000 in
set_option maxHeartbeats 2000000 in
theorem sides_any (old u : ByteArray) (hu : u.size = 32) : ∀ (PL : Nat) (rest : List ByteArray) (PS : Nat) (wh : Bool) (n m : Nat) (pre : List ByteArray) (o : Option Addr) (c : Nat) (w : World), rest.length = PL → (pre ++ rest).length = PS →
    ((wh && wholeN n m) = true ∧ pre = [] ∧ u = old ∨ (wh && wholeN n m) = false ∧ pre = [u]) → PL ≤ 100 → 1 ≤ m → m ≤ n → n ≤ 9223372036854775807 →
    (xsN n m).length = rest.length → PS ≤ c → c ≤ 9223372036854775807 → StrSl w o (pre ++ rest) → (∀ x ∈ rest, x.size = 32) → Tab w →
    Calls Tryd.prog 37 #[.string old, .int .i64 m, .int .i64 n, .slice o PS c, .bool wh] w (SideOut w u ((xsN n m).zip rest).reverse PL) := by
  intro PL
  induction PL with
  | zero =>
    intro rest PS wh n m pre o c w hps hPS hpre _ h1 hmn hn hsd hc hcm hS _ T
    obtain rfl : rest = [] := List.eq_nil_of_length_eq_zero hps
    have hnm : n ≤ m := by
      by_cases h : n ≤ m
      · exact h
      · exfalso
        by_cases hi : m ≤ splitN n
        · rw [xsN_left h1 (by omega) hi] at hsd; simp at hsd
        · rw [xsN_right h1 (by omega) hi] at hsd; simp at hsd
    obtain rfl : n = m := by omega
    rw [wholeN_end (Nat.le_refl _), Bool.and_true] at hpre
    rw [List.zip_nil_right, List.reverse_nil]
    have HB2 := Lib.hid (Below.refl w.heap.size w)
    have d1 : decide ((n : Int) ≤ n) = true := by simp
    rcases hpre with ⟨rfl, rfl, rfl⟩ | ⟨rfl, rfl⟩
    · obtain rfl : PS = 0 := hPS.symm
      clear hsd hps hS h1 hmn hnm T
      go_enter Tryd.func37, Tryd.ntmps37
      go_wp2_with fail
      go_ret2
      exact ⟨none, 0, rfl, fun _ => rfl, .inl rfl, HB2.out⟩
    · obtain rfl : PS = 1 := hPS.symm
      rcases hS with h | ⟨b, off, rfl, hl, hcell⟩
      · simp at h
      have c1 : w.cell? ⟨b, off, none⟩ = some (.string u) := hcell 0 u rfl
      have c2 : w.drew.cell? ⟨b, off, none⟩ = some (.string u) := c1
      have HB3 := Lib.hid (Below.refl w.heap.size w).drew
      clear hsd hps hcell h1 hmn hnm T
      go_enter Tryd.func37, Tryd.ntmps37
      go_wp2_with fail
      go_region
      all_goals go_wp2_with fail
      all_goals go_ret2
      all_goals exact ⟨none, 0, rfl, fun _ => rfl, .inl rfl, HB3.out⟩
  | succ PL ih =>
    intro rest PS wh n m pre o c w hps hPS hpre h100 h1 hmn' hn hsd hc hcm hS hx T
    rcases List.eq_nil_or_concat rest with rfl | ⟨qs, x, rfl⟩
    · simp at hps
    rw [List.concat_eq_append] at *
    have hq : qs.length = PL := by simpa using hps
    have hmn : m < n := by
      by_cases h : n ≤ m
      · rw [xsN_end h] at hsd; simp at hsd
      · omega
    have h2 : 2 ≤ n := by omega
    have hxs : x.size = 32 := hx x (by simp)
    obtain ⟨PQ, rfl⟩ : ∃ k, PS = k + 1 := ⟨PS - 1, by rw [← hPS]; simp; omega⟩
    have hPQ : (pre ++ qs).length = PQ := by rw [← List.append_assoc, List.length_append] at hPS; simpa using hPS
    rw [← List.append_assoc] at hS
    rcases hS with h | ⟨b, off, rfl, hl, hcell⟩
    · simp at h
    have c1 : w.cell? ⟨b, off + PQ, none⟩ = some (.string x) := hcell PQ x (by rw [← hPQ]; simp)
    have HQ := Lib.hid (show StrSl w (some ⟨b, off, none⟩) (pre ++ qs) from .inr ⟨b, off, rfl, hl, fun j y hy => hcell j y (by
      rw [List.getElem?_append_left (List.getElem?_eq_some_iff.1 hy).1]; exact hy)⟩)
    have CP := Lib.hid (fun w => left_any n w h2 hn)
    have k1 := splitN_lt h2
    have k0 := splitN_pos n
    have HT := Lib.hid T
    have hqx : ∀ y ∈ qs, y.size = 32 := fun y hy => hx y (by simp [hy])
    have d0 : decide ((n : Int) ≤ m) = false := by simp; omega
    have n0 : ¬ n ≤ m := by omega
    by_cases hi : m ≤ splitN n
    · have hsd2 : (xsN (splitN n) (m)).length = qs.length := by rw [xsN_left h1 hmn hi] at hsd; simpa using hsd
      have hp2 : (wh && wholeN (splitN n) m) = true ∧ pre = [] ∧ u = old ∨ (wh && wholeN (splitN n) m) = false ∧ pre = [u] := by rw [wholeN_left h1 hmn hi] at hpre; exact hpre
      have C1 := Lib.hid (fun w' (T' : Tab w') (h : StrSl w' (some ⟨b, off, none⟩) (pre ++ qs)) => ih qs PQ wh (splitN n) m pre (some ⟨b, off, none⟩) c w' hq hPQ hp2 (by omega) h1 hi (by omega) hsd2 (by omega) hcm h hqx T')
      have hZ : ((xsN n m).zip (qs ++ [x])).reverse = (true, x) :: ((xsN (splitN n) (m)).zip qs).reverse := by
        rw [xsN_left h1 hmn hi, List.zip_append hsd2]; simp
      have hZl : (((xsN (splitN n) (m)).zip qs).reverse).length = PL := by rw [List.length_reverse, List.length_zip, hsd2, hq, Nat.min_self]
      rw [hZ]
      generalize ((xsN (splitN n) (m)).zip qs).reverse = Z at *
      have z1 := valW_size hu Z
      have m1 : ¬ 9223372036854775807 < 1 + (valW u Z).size + x.size := by omega
      have m2 : ¬ 9223372036854775807 < 1 + (valW u Z).size := by omega
      have HL := Lib.hid (show (wayW u Z).length = PL by rw [wayW_length, hZl])
      have CN := Lib.hid (fun w' (T' : Tab w') => Node_any (valW u Z) x w' T' (by omega))
      have HW := Lib.hid (show wayW u ((true, x) :: Z) = (⟨#[1]⟩ ++ valW u Z ++ x) :: wayW u Z from rfl)
      have HV := Lib.hid (show valW u ((true, x) :: Z) = nodeS (valW u Z) x from rfl)
      have d1 : decide ((m : Int) ≤ (splitN n : Nat)) = true := by simpa using hi
      unfold SideOut
      rw [HW.out, HV.out]
      unfold SideOut at C1
      generalize valW u Z = V at *
      generalize nodeS V x = NV at *
      generalize splitN n = K at *
      clear hZ hZl z1 hsd2 ih hsd hx hqx hps hcell T HW HV hpre hp2
      go_enter Tryd.func37, Tryd.ntmps37
      go_wp2_with fail
      with_reducible refine Calls.mono (CP.out _) ?_
      rintro e w2 ⟨rfl, rfl⟩
      go_wp2_with fail
      with_reducible refine Calls.mono (C1.out _ HT.out HQ.out) ?_
      rintro e w3 ⟨po, c3, rfl, hnil, hS3, hb⟩
      have HT3 := Lib.hid (HT.out.next hb)
      have HB3 := Lib.hid hb
      have HS3 := Lib.hid hS3
      have h40 : 1 + PL ≤ 2 ^ 40 := by omega
      have HNIL := Lib.hid hnil
      clear hb hS3 hnil
      go_wp2_with (first
        | (at_builtin; refine wpList_append_strs rfl _ _ rfl rfl w3.heap.size (.slice (some ⟨w3.heap.size, 0, none⟩) 1 1) [(⟨#[1]⟩ : ByteArray) ++ V ++ x] rfl (madeS_one w3 _ (Nat.le_refl _) rfl) po PL c3 (wayW u Z) rfl HL.out HNIL.out (HS3.out.next ((Below.refl w3.heap.size w3).alloc (Nat.le_refl _) _)) h40 (by simp) ?_; intro v' w4 hown' hgrow; have K2 := Lib.hid hown'; have hbl := Below.andThen HB3.out (((Below.refl w3.heap.size w3).alloc (Nat.le_refl _) (.cells #[.string (⟨#[1]⟩ ++ V ++ x)] 9)).grown hgrow (by simp) (fun k hk => by simp [Value.ownBlock] at hk; omega)); have HB4 := Lib.hid hbl; have HT4 := Lib.hid (HT.out.next hbl); clear hown' hgrow hbl)
        | (with_reducible refine Calls.mono (CN.out _ HT4.out) ?_; rintro e w5 ⟨rfl, hb⟩; have HB5 := Lib.hid (Below.andThen HB4.out hb); have HS5 := Lib.hid hb; clear hb))
      go_ret2
      obtain ⟨b4, c4, rfl, hS4⟩ := own_some HL.out K2.out
      exact ⟨some ⟨b4, 0, none⟩, c4, rfl, (fun h => by cases h), hS4.next HS5.out, HB5.out⟩
    · have hsd2 : (xsN (n - splitN n) (m - splitN n)).length = qs.length := by rw [xsN_right h1 hmn hi] at hsd; simpa using hsd
      have hp2 : (false && wholeN (n - splitN n) (m - splitN n)) = true ∧ pre = [] ∧ u = old ∨ (false && wholeN (n - splitN n) (m - splitN n)) = false ∧ pre = [u] := by
        rw [wholeN_right h1 hmn hi] at hpre
        rcases hpre with ⟨h, _⟩ | ⟨_, h⟩
        · simp at h
        · exact .inr ⟨rfl, h⟩
      have C1 := Lib.hid (fun w' (T' : Tab w') (h : StrSl w' (some ⟨b, off, none⟩) (pre ++ qs)) => ih qs PQ false (n - splitN n) (m - splitN n) pre (some ⟨b, off, none⟩) c w' hq hPQ hp2 (by omega) (by omega) (by omega) (by omega) hsd2 (by omega) hcm h hqx T')
      have hZ : ((xsN n m).zip (qs ++ [x])).reverse = (false, x) :: ((xsN (n - splitN n) (m - splitN n)).zip qs).reverse := by
        rw [xsN_right h1 hmn hi, List.zip_append hsd2]; simp
      have hZl : (((xsN (n - splitN n) (m - splitN n)).zip qs).reverse).length = PL := by rw [List.length_reverse, List.length_zip, hsd2, hq, Nat.min_self]
      rw [hZ]
      generalize ((xsN (n - splitN n) (m - splitN n)).zip qs).reverse = Z at *
      have z1 := valW_size hu Z
      have m1 : ¬ 9223372036854775807 < 1 + x.size + (valW u Z).size := by omega
      have m2 : ¬ 9223372036854775807 < 1 + x.size := by omega
      have HL := Lib.hid (show (wayW u Z).length = PL by rw [wayW_length, hZl])
      have CN := Lib.hid (fun w' (T' : Tab w') => Node_any x (valW u Z) w' T' (by omega))
      have HW := Lib.hid (show wayW u ((false, x) :: Z) = (⟨#[1]⟩ ++ x ++ valW u Z) :: wayW u Z from rfl)
      have HV := Lib.hid (show valW u ((false, x) :: Z) = nodeS x (valW u Z) from rfl)
      have d1 : decide ((m : Int) ≤ (splitN n : Nat)) = false := by simp; omega
      rw [show ((n - splitN n : Nat) : Int) = (n : Int) - (splitN n : Nat) by omega, show ((m - splitN n : Nat) : Int) = (m : Int) - (splitN n : Nat) by omega] at C1
      unfold SideOut
      rw [HW.out, HV.out]
      unfold SideOut at C1
      generalize valW u Z = V at *
      generalize nodeS x V = NV at *
      generalize splitN n = K at *
      clear hZ hZl z1 hsd2 ih hsd hx hqx hps hcell T HW HV hpre hp2
      go_enter Tryd.func37, Tryd.ntmps37
      go_wp2_with fail
      with_reducible refine Calls.mono (CP.out _) ?_
      rintro e w2 ⟨rfl, rfl⟩
      go_wp2_with fail
      with_reducible refine Calls.mono (C1.out _ HT.out HQ.out) ?_
      rintro e w3 ⟨po, c3, rfl, hnil, hS3, hb⟩
      have HT3 := Lib.hid (HT.out.next hb)
      have HB3 := Lib.hid hb
      have HS3 := Lib.hid hS3
      have h40 : 1 + PL ≤ 2 ^ 40 := by omega
      have HNIL := Lib.hid hnil
      clear hb hS3 hnil
      go_wp2_with (first
        | (at_builtin; refine wpList_append_strs rfl _ _ rfl rfl w3.heap.size (.slice (some ⟨w3.heap.size, 0, none⟩) 1 1) [(⟨#[1]⟩ : ByteArray) ++ x ++ V] rfl (madeS_one w3 _ (Nat.le_refl _) rfl) po PL c3 (wayW u Z) rfl HL.out HNIL.out (HS3.out.next ((Below.refl w3.heap.size w3).alloc (Nat.le_refl _) _)) h40 (by simp) ?_; intro v' w4 hown' hgrow; have K2 := Lib.hid hown'; have hbl := Below.andThen HB3.out (((Below.refl w3.heap.size w3).alloc (Nat.le_refl _) (.cells #[.string (⟨#[1]⟩ ++ x ++ V)] 9)).grown hgrow (by simp) (fun k hk => by simp [Value.ownBlock] at hk; omega)); have HB4 := Lib.hid hbl; have HT4 := Lib.hid (HT.out.next hbl); clear hown' hgrow hbl)
        | (with_reducible refine Calls.mono (CN.out _ HT4.out) ?_; rintro e w5 ⟨rfl, hb⟩; have HB5 := Lib.hid (Below.andThen HB4.out hb); have HS5 := Lib.hid hb; clear hb))
      go_ret2
      obtain ⟨b4, c4, rfl, hS4⟩ := own_some HL.out K2.out
      exact ⟨some ⟨b4, 0, none⟩, c4, rfl, (fun h => by cases h), hS4.next HS5.out, HB5.out⟩
end Go.Proofs.YtojfblkmhdgjeaaDoor
