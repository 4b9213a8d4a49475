/- way, as a contract. -/
import Derived.Test.YtojfblkmhdgjeaaDoorDigW2
namespace Go.Proofs.YtojfblkmhdgjeaaDoor
open Go.RowKit Go.ChangeShapes Go.WideShapes Go.ChangeAt

/-- what way returns -/
def WayOut (w : World) (s : ByteArray) (Z : List (Bool × ByteArray)) (L : Nat) (e : Ending) (w' : World) : Prop :=
  ∃ b c, e = .returned (.tuple #[.slice (some ⟨b, 0, none⟩) L c, .string (valZ s Z)]) ∧ StrSl w' (some ⟨b, 0, none⟩) (wayZ s Z) ∧ Below w.heap.size w w'
theorem one_size (k : UInt8) (v : ByteArray) : ((⟨#[k]⟩ : ByteArray) ++ v).size = v.size + 1 := by
  rw [app_cat, catS_size, Nat.add_comm]; rfl
theorem sl_cells {w : World} {b off : Nat} {xs : List ByteArray} (h : StrSl w (some ⟨b, off, none⟩) xs) (ob : Obj) : ∀ j u, (xs.map strV)[j]? = some u → (w.alloc ob).cell? ((⟨b, off, none⟩ : Addr).add j) = some u := by
  intro j u hj
  rw [List.getElem?_map] at hj
  obtain ⟨x, hx, rfl⟩ := Option.map_eq_some_iff.1 hj
  rcases h with rfl | ⟨b', off', e, hl, hc⟩
  · simp at hx
  · cases e
    have e : Addr.add ⟨b, off, none⟩ j = ⟨b, off + j, none⟩ := by unfold Addr.add; split <;> simp_all
    rw [e]
    exact (World.cell?_alloc_past ob b (off + j) hl).trans (hc j x hx)
theorem rowOf_new (w : World) (C : List Value) (t : TypeId) {n : Nat} (hn : w.heap.size = n) : Row (w.alloc (.cells C.toArray t)) n t C := by subst hn; exact Row.new w t C
theorem rowOf_one {w : World} {b : Nat} {t : TypeId} {r : ByteArray} (h : Row w b t [.string r]) : StrSl w (some ⟨b, 0, none⟩) [r] := .inr ⟨b, 0, rfl, h.lt, h.str (xs := [r])⟩
/-- an own row behind one string -/
theorem own_head {w : World} {B L : Nat} {v : Value} {x : ByteArray} {xs : List ByteArray} (hL : xs.length = L) (h : w.ownsRow B 9 1 v (1 + L) ([.string x] ++ xs.map strV)) : ∃ b c, v = .slice (some ⟨b, 0, none⟩) (L + 1) c ∧ StrSl w (some ⟨b, 0, none⟩) (x :: xs) := by
  have h2 : OwnS w B v (x :: xs) := by
    unfold OwnS
    rw [List.length_cons, hL, Nat.add_comm]
    exact h
  obtain ⟨o, c, rfl, _⟩ := h2.form
  rcases h2.parts with ⟨_, _, h3⟩ | ⟨g, rfl, _⟩
  · cases h3
  · have h4 := h2.sl
    refine ⟨g, c, ?_, h4⟩
    rw [List.length_cons, hL]
set_option maxRecDepth 100000 in
set_option maxHeartbeats 2000000 in
theorem way_any (s : ByteArray) (hs : s.size ≤ 60) : ∀ (PL : Nat) (ps : List ByteArray) (n i : Nat) (o : Option Addr) (c : Nat) (w : World), ps.length = PL → PL ≤ 100 → 1 ≤ n → n ≤ 9223372036854775807 → i < n →
    (sidesN n i).length = ps.length → PL ≤ c → c ≤ 9223372036854775807 → StrSl w o ps → (∀ x ∈ ps, x.size ≤ 60) → Tab w →
    Calls Tryd.prog 34 #[.int .i64 n, .int .i64 i, .string s, .slice o PL c] w (WayOut w s ((sidesN n i).zip ps).reverse (PL + 1)) := by
  intro PL
  obtain ⟨i0, hi0, hz0, hz1, hz2⟩ := info_parts infoStr
  induction PL with
  | zero =>
    intro ps n i o c w hps _ h1 _ hin hsd _ _ _ _ T
    obtain rfl : ps = [] := List.eq_nil_of_length_eq_zero hps
    have hn1 : n ≤ 1 := by
      by_cases h : n ≤ 1
      · exact h
      · exfalso
        by_cases hi : i < splitN n
        · rw [sidesN_left (by omega) hi] at hsd; simp at hsd
        · rw [sidesN_right (by omega) hi] at hsd; simp at hsd
    obtain rfl : n = 1 := by omega
    obtain rfl : i = 0 := by omega
    rw [List.zip_nil_right, List.reverse_nil]
    have HT := Lib.hid T
    have CL := Lib.hid (fun w' (T' : Tab w') => Leaf_any s w' T' (by omega))
    clear hsd hps hin h1 hn1 T
    go_enter Tryd.func34, Tryd.ntmps34
    go_wp2_with fail
    with_reducible refine Calls.mono (CL.out _ (HT.out.next ((Below.refl _ _).alloc (Nat.le_refl _) _))) ?_
    rintro e w2 ⟨rfl, hb⟩
    have HR := Lib.hid (rowOf_one ((rowOf_new w [.string (⟨#[0]⟩ ++ s)] 9 rfl).next hb))
    have HB2 := Lib.hid (Below.andThen ((Below.refl w.heap.size w).alloc (Nat.le_refl _) _) hb)
    clear hb
    go_wp2_with fail
    go_ret2
    exact ⟨_, 1, rfl, HR.out, HB2.out⟩
  | succ PL ih =>
    intro ps n i o c w hps h100 h1 hn hin hsd hc hcm hS hx T
    rcases List.eq_nil_or_concat ps with rfl | ⟨qs, x, rfl⟩
    · simp at hps
    rw [List.concat_eq_append] at *
    have hq : qs.length = PL := by simpa using hps
    have h2 : 2 ≤ n := by
      by_cases h : n ≤ 1
      · rw [sidesN_one h] at hsd; simp at hsd
      · omega
    have hxs : x.size ≤ 60 := hx x (by simp)
    rcases hS with h | ⟨b, off, rfl, hl, hcell⟩
    · simp at h
    have c1 : w.cell? ⟨b, off + PL, none⟩ = some (.string x) := hcell PL x (by rw [← hq]; simp)
    have HQ := Lib.hid (show StrSl w (some ⟨b, off, none⟩) qs from .inr ⟨b, off, rfl, hl, fun j y hy => hcell j y (by
      rw [List.getElem?_append_left (List.getElem?_eq_some_iff.1 hy).1]; exact hy)⟩)
    have CP := Lib.hid (fun w => left_any n w h2 hn)
    have k1 := splitN_lt h2
    have k0 := splitN_pos n
    have HT := Lib.hid T
    have hqx : ∀ y ∈ qs, y.size ≤ 60 := fun y hy => hx y (by simp [hy])
    have d0 : decide ((n : Int) ≤ 1) = false := by simp; omega
    have n0 : ¬ n ≤ 1 := by omega
    by_cases hi : i < splitN n
    · have hsd2 : (sidesN (splitN n) i).length = qs.length := by rw [sidesN_left h2 hi] at hsd; simpa using hsd
      have C1 := Lib.hid (fun w' (T' : Tab w') (h : StrSl w' (some ⟨b, off, none⟩) qs) => ih qs (splitN n) i (some ⟨b, off, none⟩) c w' hq (by omega) k0 (by omega) hi hsd2 (by omega) hcm h hqx T')
      have hZ : ((sidesN n i).zip (qs ++ [x])).reverse = (true, x) :: ((sidesN (splitN n) i).zip qs).reverse := by
        rw [sidesN_left h2 hi, List.zip_append hsd2]; simp
      have hZl : (((sidesN (splitN n) i).zip qs).reverse).length = PL := by simp; omega
      rw [hZ]
      generalize ((sidesN (splitN n) i).zip qs).reverse = Z at *
      have v1 := valZ_size s Z
      have m1 : ¬ 9223372036854775807 < 1 + (valZ s Z).size + x.size := by omega
      have HL := Lib.hid (show (wayZ s Z).length = PL + 1 by rw [wayZ_length, hZl])
      have CN := Lib.hid (fun w' (T' : Tab w') => Node_any (valZ s Z) x w' T' (by omega))
      have HW := Lib.hid (show wayZ s ((true, x) :: Z) = (⟨#[1]⟩ ++ valZ s Z ++ x) :: wayZ s Z from rfl)
      have HV := Lib.hid (show valZ s ((true, x) :: Z) = nodeS (valZ s Z) x from rfl)
      have d1 : decide ((i : Int) < (splitN n : Nat)) = true := by simpa using hi
      unfold WayOut
      rw [HW.out, HV.out]
      unfold WayOut at C1
      generalize valZ s Z = V at *
      generalize nodeS V x = NV at *
      generalize splitN n = K at *
      clear hZ hZl v1 hsd2 ih hsd hx hqx hps hcell T HW HV hxs
      go_enter Tryd.func34, Tryd.ntmps34
      go_wp2_with fail
      with_reducible refine Calls.mono (CP.out _) ?_
      rintro e w2 ⟨rfl, rfl⟩
      go_wp2_with fail
      with_reducible refine Calls.mono (C1.out _ HT.out HQ.out) ?_
      rintro e w3 ⟨g, c3, rfl, hS3, hb⟩
      have HT3 := Lib.hid (HT.out.next hb)
      have HB3 := Lib.hid hb
      have HS3 := Lib.hid hS3
      have h63 : 1 + (PL + 1) ≤ maxLen := by unfold maxLen; omega
      have h16 : (1 + (PL + 1)) * 16 ≤ 140737488355328 := by omega
      have HC := Lib.hid (sl_cells hS3)
      have HLM := Lib.hid (show ((wayZ s Z).map strV).length = (PL + 1) * 1 by rw [List.length_map, HL.out, Nat.mul_one])
      clear hb hS3
      go_wp2_with (first
        | (at_builtin; refine wpList_append_own _ rfl _ _ 26 rfl w3.heap.size 9 i0 (.string ⟨#[]⟩) 1 16 Tryd.underlying26 hi0 hz0 hz1 hz2 rfl (by decide) (.slice (some ⟨w3.heap.size, 0, none⟩) 1 1) 1 [.string (⟨#[1]⟩ ++ V ++ x)] rfl (made_one w3 _ (Nat.le_refl _) rfl) ⟨g, 0, none⟩ (PL + 1) c3 ((wayZ s Z).map strV) rfl HLM.out (HC.out _) (strV_one _) h63 h16 (by simp) ?_; intro v' w4 hown' hgrow _; have K2 := Lib.hid hown'; have hbl := Below.andThen HB3.out (((Below.refl w3.heap.size w3).alloc (Nat.le_refl _) (.cells #[.string (⟨#[1]⟩ ++ V ++ x)] 9)).grown hgrow (by simp) (fun k hk => by simp [Value.ownBlock] at hk; omega)); have HB4 := Lib.hid hbl; have HT4 := Lib.hid (HT.out.next hbl); clear hown' hgrow hbl)
        | (with_reducible refine Calls.mono (CN.out _ HT4.out) ?_; rintro e w5 ⟨rfl, hb⟩; have HB5 := Lib.hid (Below.andThen HB4.out hb); have HS5 := Lib.hid hb; clear hb))
      go_ret2
      obtain ⟨b4, c4, rfl, hS4⟩ := own_head HL.out K2.out
      exact ⟨b4, c4, rfl, hS4.next HS5.out, HB5.out⟩
    · have hsd2 : (sidesN (n - splitN n) (i - splitN n)).length = qs.length := by rw [sidesN_right h2 hi] at hsd; simpa using hsd
      have C1 := Lib.hid (fun w' (T' : Tab w') (h : StrSl w' (some ⟨b, off, none⟩) qs) => ih qs (n - splitN n) (i - splitN n) (some ⟨b, off, none⟩) c w' hq (by omega) (by omega) (by omega) (by omega) hsd2 (by omega) hcm h hqx T')
      have hZ : ((sidesN n i).zip (qs ++ [x])).reverse = (false, x) :: ((sidesN (n - splitN n) (i - splitN n)).zip qs).reverse := by
        rw [sidesN_right h2 hi, List.zip_append hsd2]; simp
      have hZl : (((sidesN (n - splitN n) (i - splitN n)).zip qs).reverse).length = PL := by simp; omega
      rw [hZ]
      generalize ((sidesN (n - splitN n) (i - splitN n)).zip qs).reverse = Z at *
      have v1 := valZ_size s Z
      have m1 : ¬ 9223372036854775807 < 1 + x.size + (valZ s Z).size := by omega
      have m2 : ¬ 9223372036854775807 < 1 + x.size := by omega
      have HL := Lib.hid (show (wayZ s Z).length = PL + 1 by rw [wayZ_length, hZl])
      have CN := Lib.hid (fun w' (T' : Tab w') => Node_any x (valZ s Z) w' T' (by omega))
      have HW := Lib.hid (show wayZ s ((false, x) :: Z) = (⟨#[1]⟩ ++ x ++ valZ s Z) :: wayZ s Z from rfl)
      have HV := Lib.hid (show valZ s ((false, x) :: Z) = nodeS x (valZ s Z) from rfl)
      have d1 : decide ((i : Int) < (splitN n : Nat)) = false := by simp; omega
      rw [show ((n - splitN n : Nat) : Int) = (n : Int) - (splitN n : Nat) by omega, show ((i - splitN n : Nat) : Int) = (i : Int) - (splitN n : Nat) by omega] at C1
      unfold WayOut
      rw [HW.out, HV.out]
      unfold WayOut at C1
      generalize valZ s Z = V at *
      generalize nodeS x V = NV at *
      generalize splitN n = K at *
      clear hZ hZl v1 hsd2 ih hsd hx hqx hps hcell T HW HV hxs
      go_enter Tryd.func34, Tryd.ntmps34
      go_wp2_with fail
      with_reducible refine Calls.mono (CP.out _) ?_
      rintro e w2 ⟨rfl, rfl⟩
      go_wp2_with fail
      with_reducible refine Calls.mono (C1.out _ HT.out HQ.out) ?_
      rintro e w3 ⟨g, c3, rfl, hS3, hb⟩
      have HT3 := Lib.hid (HT.out.next hb)
      have HB3 := Lib.hid hb
      have HS3 := Lib.hid hS3
      have h63 : 1 + (PL + 1) ≤ maxLen := by unfold maxLen; omega
      have h16 : (1 + (PL + 1)) * 16 ≤ 140737488355328 := by omega
      have HC := Lib.hid (sl_cells hS3)
      have HLM := Lib.hid (show ((wayZ s Z).map strV).length = (PL + 1) * 1 by rw [List.length_map, HL.out, Nat.mul_one])
      clear hb hS3
      go_wp2_with (first
        | (at_builtin; refine wpList_append_own _ rfl _ _ 26 rfl w3.heap.size 9 i0 (.string ⟨#[]⟩) 1 16 Tryd.underlying26 hi0 hz0 hz1 hz2 rfl (by decide) (.slice (some ⟨w3.heap.size, 0, none⟩) 1 1) 1 [.string (⟨#[1]⟩ ++ x ++ V)] rfl (made_one w3 _ (Nat.le_refl _) rfl) ⟨g, 0, none⟩ (PL + 1) c3 ((wayZ s Z).map strV) rfl HLM.out (HC.out _) (strV_one _) h63 h16 (by simp) ?_; intro v' w4 hown' hgrow _; have K2 := Lib.hid hown'; have hbl := Below.andThen HB3.out (((Below.refl w3.heap.size w3).alloc (Nat.le_refl _) (.cells #[.string (⟨#[1]⟩ ++ x ++ V)] 9)).grown hgrow (by simp) (fun k hk => by simp [Value.ownBlock] at hk; omega)); have HB4 := Lib.hid hbl; have HT4 := Lib.hid (HT.out.next hbl); clear hown' hgrow hbl)
        | (with_reducible refine Calls.mono (CN.out _ HT4.out) ?_; rintro e w5 ⟨rfl, hb⟩; have HB5 := Lib.hid (Below.andThen HB4.out hb); have HS5 := Lib.hid hb; clear hb))
      go_ret2
      obtain ⟨b4, c4, rfl, hS4⟩ := own_head HL.out K2.out
      exact ⟨b4, c4, rfl, hS4.next HS5.out, HB5.out⟩
end Go.Proofs.YtojfblkmhdgjeaaDoor
