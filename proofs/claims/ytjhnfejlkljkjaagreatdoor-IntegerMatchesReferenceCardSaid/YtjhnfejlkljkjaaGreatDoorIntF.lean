/- Natural numbers in groups: products. -/
import Derived.Test.YtjhnfejlkljkjaaGreatDoorIntE
import Derived.Deep.RegionHeld3
namespace Go.Proofs.YtjhnfejlkljkjaaGreatDoor
open Go.RowKit

/-- what the closure of times makes of the groups, the highest first -/
def foldB (b : Nat) (l : List Nat) : Nat := l.foldl (fun s g => s * 10000 + b * g) 0
theorem foldB_more (b : Nat) (l : List Nat) (g : Nat) : foldB b (l ++ [g]) = foldB b l * 10000 + b * g := by simp [foldB]
theorem foldB_rev (a b : Nat) : ∀ j, j ≤ (In.gs a).length → foldB b ((In.gs a).reverse.take j) = b * (a / 10000 ^ ((In.gs a).length - j)) := by
  intro j
  induction j with
  | zero => intro _; rw [List.take_zero, Nat.sub_zero, In.gs_top]; simp [foldB]
  | succ j ih =>
    intro hj
    have h1 : j < (In.gs a).reverse.length := by rw [List.length_reverse]; omega
    have h2 : (In.gs a).reverse[j]? = some (a / 10000 ^ ((In.gs a).length - (j + 1)) % 10000) := by
      rw [List.getElem?_reverse (by omega), ← In.gs_at (by omega)]
      congr 1
      omega
    rw [List.take_add_one, h2, Option.toList_some, foldB_more, ih (by omega), In.mul_horner (i := (In.gs a).length - (j + 1)), show (In.gs a).length - (j + 1) + 1 = (In.gs a).length - j by omega]
theorem foldB_all (a b : Nat) : foldB b (In.gs a).reverse = a * b := by
  have h := foldB_rev a b (In.gs a).length (Nat.le_refl _)
  rw [List.take_of_length_le (by rw [List.length_reverse]; exact Nat.le_refl _), Nat.sub_self, Nat.pow_zero, Nat.div_one] at h
  rw [h, Nat.mul_comm]
theorem gs_len_mul (a b : Nat) : (In.gs (a * b)).length ≤ (In.gs a).length + (In.gs b).length := by
  have h1 := In.gs_lt_pow a
  have h2 := In.gs_lt_pow b
  refine In.gr_len_le (by decide) _ _ ?_
  rw [Nat.pow_add]
  rcases Nat.eq_zero_or_pos b with h | h
  · subst h
    rw [Nat.mul_zero]
    exact Nat.mul_pos (Nat.pow_pos (by decide)) (Nat.pow_pos (by decide))
  · exact Nat.lt_of_lt_of_le (Nat.mul_lt_mul_of_pos_right h1 h) (Nat.mul_le_mul_left _ (Nat.le_of_lt h2))
theorem gs_len_le {a b : Nat} (h : a ≤ b) : (In.gs a).length ≤ (In.gs b).length := In.gr_len_le (by decide) _ _ (Nat.lt_of_le_of_lt h (In.gs_lt_pow b))
theorem foldB_len (a b j : Nat) : (In.gs (foldB b ((In.gs a).reverse.take j))).length ≤ (In.gs a).length + (In.gs b).length := by
  refine Nat.le_trans (gs_len_le ?_) (gs_len_mul a b)
  rcases Nat.lt_or_ge (In.gs a).length j with h | h
  · rw [List.take_of_length_le (by rw [List.length_reverse]; omega), foldB_all]
    exact Nat.le_refl _
  · rw [foldB_rev a b j h, Nat.mul_comm]
    exact Nat.mul_le_mul_right _ (Nat.div_le_self _ _)

set_option maxRecDepth 100000 in
set_option maxHeartbeats 2000000 in
theorem timesF_any (su v : Value) (s b g bx : Nat) (w : World) (hs : NSl w su s) (hv : NSl w v b) (hc : w.cell? ⟨bx, 0, none⟩ = some v) (hbx : bx < w.heap.size) (ls : (In.gs s).length ≤ 990) (lb : (In.gs b).length ≤ 990) (hg : g < 10000) :
    Calls Tryz.prog 76 #[su, .int .i64 g, .pointer (some ⟨bx, 0, none⟩)] w fun e w' => ∃ r, e = .returned r ∧ NSl w' r (s * 10000 + b * g) ∧ Below w.heap.size w w' := by
  have HS := Lib.hid hs
  have HV := Lib.hid hv
  have h00 : Below w.heap.size w w.drew := (Below.refl _ _).drew
  have C1 := Lib.hid (shifted_any su s 0 w.drew (hs.next h00) (by omega) (by decide))
  rw [Nat.add_zero] at C1
  have l1 : (In.gs (s * 10000)).length ≤ 1000 := by
    have h := gs_len_mul s 10000
    have e : (In.gs 10000).length = 2 := by decide
    omega
  have l2 : (In.gs (b * g)).length ≤ 1000 := by
    have h := gs_len_mul b g
    have e : (In.gs g).length ≤ 1 := In.gr_len_le (by decide) 1 g (by omega)
    omega
  have c1 : w.drew.cell? ⟨bx, 0, none⟩ = some v := hc
  clear hs hv
  go_enter Tryz.func76, Tryz.ntmps76
  go_upto_region 1 with (fail)
  first | (go_region_held3 (fun w' => w'.cell? ⟨bx, 0, none⟩ = some v) (first | assumption | go_keep) (first
    | (go_at_call 60; with_reducible refine Calls.mono C1.out ?_; rintro e wa ⟨r1, rfl, hn1, hb1⟩; have HA := Lib.hid (And.intro hn1 (Below.andThen h00 hb1)); have na := (HA.out.2.cell (p := ⟨bx, 0, none⟩) hbx).trans hc; clear hn1 hb1)
    | (go_at_call 59; with_reducible refine Calls.mono (scaled_any v b g _ (HV.out.next HA.out.2) (by omega) hg) ?_; rintro e wb ⟨r2, rfl, hn2, hb2⟩; have HB := Lib.hid (And.intro hn2 (And.intro (HA.out.1.next hb2) (Below.andThen HA.out.2 hb2))); have nb := (HB.out.2.2.cell (p := ⟨bx, 0, none⟩) hbx).trans hc; clear hn2 hb2)
    | (go_at_call 54; with_reducible refine Calls.mono (plus_any r1 r2 (s * 10000) (b * g) _ HB.out.2.1 HB.out.1 l1 l2) ?_; rintro e wc ⟨r3, rfl, hn3, hb3⟩; have HC := Lib.hid (And.intro hn3 (Below.andThen HB.out.2.2 hb3)); have nc := (HC.out.2.cell (p := ⟨bx, 0, none⟩) hbx).trans hc; clear hn3 hb3))) | fail
  go_wp2_with fail
  go_ret
  exact ⟨_, rfl, HC.out⟩

set_option maxRecDepth 100000 in
set_option maxHeartbeats 2000000 in
theorem fold_any (o : Option Addr) (L c : Nat) (l : List Nat) (st v : Value) (b bx : Nat) (w : World) (hl : l.length = L) (hL : L ≤ 1000) (hLc : L ≤ c) (hS : LSl w o l) (hx : ∀ x ∈ l, x < 10000) (hst : NSl w st 0) (hv : NSl w v b) (hc : w.cell? ⟨bx, 0, none⟩ = some v) (hbx : bx < w.heap.size)
    (hF : ∀ j, (In.gs (foldB b (l.take j))).length ≤ 990) (lb : (In.gs b).length ≤ 990) :
    Calls Tryz.prog 75 #[.slice o L c, st, .func (.func 76) #[] #[.pointer (some ⟨bx, 0, none⟩)]] w fun e w' => ∃ r, e = .returned r ∧ NSl w' r (foldB b l) ∧ Below w.heap.size w w' := by
  have HS := Lib.hid hS
  have HV := Lib.hid hv
  have HST := Lib.hid hst
  have HX := Lib.hid hx
  have HL := Lib.hid hl
  have HF := Lib.hid hF
  have HB0 := Lib.hid (Below.refl w.heap.size w)
  clear hS hv hst hx hl hF
  go_enter Tryz.func75, Tryz.ntmps75
  go_wp2_with fail
  go_loopw [1, 11] (fun sv iv wr => ∃ j : Nat, j ≤ L ∧ iv = .int .i64 j ∧ NSl wr sv (foldB b (l.take j)) ∧ Below w.heap.size w wr) (fun _ iv _ => L - (intOf iv).toNat)
  case atStart => exact ⟨0, Nat.zero_le _, rfl, HST.out, HB0.out⟩
  case round =>
    clear HB0 HST
    rename Value => su
    obtain ⟨j, hj, rfl, hn, hB⟩ := hrel
    by_cases hlt : j < L
    · obtain ⟨x, hxj⟩ : ∃ x, l[j]? = some x := ⟨_, List.getElem?_eq_getElem (by rw [HL.out]; exact hlt)⟩
      have HT := Lib.hid (show foldB b (l.take (j + 1)) = foldB b (l.take j) * 10000 + b * x from by rw [List.take_add_one, hxj, Option.toList_some, foldB_more])
      have hx4 := HX.out x (List.mem_of_getElem? hxj)
      rcases (HS.out.next hB) with h | ⟨p, off, rfl, hp, hcell⟩
      · rw [h] at hxj; simp at hxj
      have c1 := hcell j x hxj
      have CT := Lib.hid (timesF_any _ v _ b x bx wr hn (HV.out.next hB) ((hB.cell (p := ⟨bx, 0, none⟩) hbx).trans hc) (Nat.lt_of_lt_of_le hbx hB.size) (HF.out j) lb hx4)
      rw [← HT.out] at CT
      have HB := Lib.hid hB
      clear hn hB hxj hcell HT
      go_wp2_with fail
      with_reducible refine Calls.mono CT.out ?_
      rintro e w2 ⟨r, rfl, hn, hb⟩
      have HK := Lib.hid (And.intro hn (Below.andThen HB.out hb))
      clear hn hb
      go_wp2_with fail
      refine ⟨⟨j + 1, by omega, by go_num, HK.out⟩, by simp [intOf]; omega⟩
    · obtain rfl : j = L := by omega
      rw [List.take_of_length_le (by rw [HL.out]; exact Nat.le_refl _)] at hn
      have HK := Lib.hid (And.intro hn hB)
      clear hn hB
      go_wp2_with fail
      go_ret
      exact ⟨_, rfl, HK.out⟩
set_option maxHeartbeats 400000 in
theorem reverse_nil (w : World) : Calls Tryz.prog 74 #[.slice none 0 0] w fun e w' => e = .returned (.tuple #[]) ∧ w = w' := by
  go_enter Tryz.func74, Tryz.ntmps74
  go_wp2_with fail
  go_loopw [2, 3] (fun iv jv wr => iv = .int .i64 0 ∧ jv = .int .i64 (-1) ∧ wr = w) (fun _ _ _ => 0)
  case atStart => exact ⟨rfl, rfl, rfl⟩
  case round =>
    obtain ⟨rfl, rfl, rfl⟩ := hrel
    go_wp2_with fail
    go_end0
    exact ⟨rfl, rfl⟩
theorem reverse_own (L : Nat) (l : List Nat) (v : Value) (B : Nat) (w : World) (hl : l.length = L) (hL : L ≤ 1000) (h : w.ownsRow B 3 1 v L (l.map natV)) :
    ∃ o c, v = .slice o L c ∧ L ≤ c ∧ Calls Tryz.prog 74 #[v] w fun e w' => e = .returned (.tuple #[]) ∧ LSl w' o l.reverse ∧ Below B w w' := by
  have h0 := h
  rcases h.2 with ⟨rfl, rfl⟩ | ⟨g, cap, cur, rfl, hg, hb, hnc, _⟩
  · obtain rfl : l = [] := List.eq_nil_of_length_eq_zero hl
    refine ⟨none, 0, rfl, Nat.le_refl _, (reverse_nil w).mono ?_⟩
    rintro e w' ⟨rfl, rfl⟩
    exact ⟨rfl, .inl rfl, Below.refl _ _⟩
  · obtain ⟨R, hR, hBg⟩ := own_row h0
    exact ⟨some ⟨g, 0, none⟩, cap, rfl, hnc, reverse_any g L cap l R w hl hL B hBg hnc hR⟩
set_option maxRecDepth 100000 in
set_option maxHeartbeats 2000000 in
theorem times_any (u v : Value) (a b : Nat) (w : World) (hu : NSl w u a) (hv : NSl w v b) (hab : (In.gs a).length + (In.gs b).length ≤ 900) :
    Calls Tryz.prog 57 #[u, v] w fun e w' => ∃ r, e = .returned r ∧ NSl w' r (a * b) ∧ Below w.heap.size w w' := by
  obtain ⟨o, c, rfl, a1, a2, a3, a4⟩ := hu.ex
  have HV := Lib.hid hv
  obtain ⟨ob, cb, rfl, _⟩ := hv.ex
  generalize hLB : (In.gs b).length = LB at *
  have HLB := Lib.hid hLB
  have HA := Lib.hid a4
  obtain ⟨L, hL⟩ : ∃ L, (In.gs a).length = L := ⟨_, rfl⟩
  have HF := Lib.hid (show ∀ j, (In.gs (foldB b ((In.gs a).reverse.take j))).length ≤ 990 from fun j => Nat.le_trans (foldB_len a b j) (Nat.le_trans (by rw [hLB]; exact hab) (show 900 ≤ 990 by decide)))
  have HLT := Lib.hid (fun x (hx : x ∈ (In.gs a).reverse) => In.gs_lt a x (by simpa using hx))
  have HRL := Lib.hid (show (In.gs a).reverse.length = L from by rw [List.length_reverse]; exact hL)
  have HAB := Lib.hid (foldB_all a b)
  rw [hL] at a1 hab ⊢
  have HL := Lib.hid hL
  have hL1 : L ≤ 900 := by omega
  have lb : LB ≤ 990 := by omega
  clear hu hv a4 hL hLB
  go_enter Tryz.func57, Tryz.ntmps57
  go_upto_region 1 with (fail)
  refine wp_named fun w1 hw => ?_
  have R1 : w1.cell? ⟨w.heap.size, 0, none⟩ = some (.slice ob LB cb) ∧ Below w.heap.size w w1 ∧ w.heap.size < w1.heap.size := by
    rw [hw]
    exact ⟨(Row.new w 45 [.slice ob LB cb]).cell 0, (Below.refl _ _).alloc (Nat.le_refl _) _, by simp⟩
  obtain ⟨bx, hbx⟩ : ∃ b, b = w.heap.size := ⟨_, rfl⟩
  rw [← hbx] at R1 ⊢
  have HR := Lib.hid R1
  have HBX := Lib.hid hbx
  have CC := Lib.hid (clone_any o L c (In.gs a) w1 HL.out (by omega) a3 a1 (HA.out.next (by have := R1.2.1; rwa [hbx] at this)))
  clear hw R1 hbx
  go_wp2_with (go_at_call 73; with_reducible refine Calls.mono CC.out ?_; rintro e w2 ⟨h, rfl, hown, hb⟩; have HO := Lib.hid hown; have HB2 := Lib.hid hb; clear hown hb)
  obtain ⟨oh, ch, rfl, hch, hrev⟩ := reverse_own L (In.gs a) _ w1.heap.size w2 HL.out (by omega) HO.out
  have CR := Lib.hid hrev
  clear hrev CC
  refine Calls.mono CR.out ?_
  rintro e w3 ⟨rfl, hl3, hb3⟩
  have HK := Lib.hid (And.intro hl3 (HB2.out.trans hb3))
  clear hl3 hb3
  have hB13 := HK.out.2
  have hB03 : Below w.heap.size w w3 := by
    have h1 := HR.out.2.1
    rw [HBX.out] at h1
    exact Below.andThen h1 hB13
  have HB03 := Lib.hid hB03
  have c3 := (hB13.cell (p := ⟨bx, 0, none⟩) HR.out.2.2).trans HR.out.1
  have lb3 := Nat.lt_of_lt_of_le HR.out.2.2 hB13.size
  have HCF := Lib.hid (fun (st : Value) (W : World) (hb : Below w3.heap.size w3 W) (hst : NSl W st 0) => fold_any oh L ch (In.gs a).reverse st (.slice ob LB cb) b bx W HRL.out (by omega) hch (HK.out.1.next hb) HLT.out hst (HV.out.next (Below.andThen HB03.out hb)) ((hb.cell (p := ⟨bx, 0, none⟩) lb3).trans c3) (Nat.lt_of_lt_of_le lb3 hb.size) HF.out (by rw [HLB.out]; exact lb))
  rw [HAB.out] at HCF
  clear hB13 hB03 CR c3
  go_wp2_with fail
  have hbl : Below w3.heap.size w3 (w3.alloc (.cells #[] 3)) := (Below.refl _ _).alloc (Nat.le_refl _) _
  have CF2 := Lib.hid (HCF.out (.slice (some ⟨w3.heap.size, 0, none⟩) 0 0) _ hbl (NSl.mk' rfl (Nat.le_refl _) (by decide) (fun h => by cases h) (.inl rfl)))
  have HBL := Lib.hid (Below.andThen HB03.out hbl)
  clear hbl HCF
  refine Calls.mono CF2.out ?_
  rintro e w4 ⟨r, rfl, hn, hb⟩
  have HFIN := Lib.hid (And.intro hn (Below.andThen HBL.out hb))
  clear hn hb
  go_wp2_with fail
  go_ret
  exact ⟨_, rfl, HFIN.out⟩
end Go.Proofs.YtjhnfejlkljkjaaGreatDoor
