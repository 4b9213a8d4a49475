/- WireSumBurst: a change of at most 32 bits in a row changes the checksum. -/
import Derived.Test.YtncmbgdpmfoohaaDoorWireAff
namespace Go.Proofs.YtncmbgdpmfoohaaDoor
open Go.RowKit Go.ChangeShapes Go.WideShapes Go.ChangeAt

section
variable {P : Program}
/-- Block b is a row of cells, of which none that is read lies frozen. -/
def RowZ (w : World) (b : Nat) (t : TypeId) (C : List Value) : Prop := ∃ z : Nat × Nat, C.length ≤ z.1 ∧ w.heap[b]? = some (.cells C.toArray t z)
theorem RowZ.lt {w : World} {b : Nat} {t : TypeId} {C : List Value} (h : RowZ w b t C) : b < w.heap.size := by
  obtain ⟨_, _, h⟩ := h
  exact (Array.getElem?_eq_some_iff.1 h).1
theorem RowZ.cell {w : World} {b : Nat} {t : TypeId} {C : List Value} (h : RowZ w b t C) (j : Nat) : w.cell? ⟨b, j, none⟩ = C[j]? := by
  obtain ⟨_, _, h⟩ := h
  simp [World.cell?, h]
theorem RowZ.frozen {w : World} {b : Nat} {t : TypeId} {C : List Value} (h : RowZ w b t C) (j : Nat) (hj : j < C.length) : w.frozen? ⟨b, j, none⟩ = false := by
  obtain ⟨⟨z0, z1⟩, hz, h⟩ := h
  simp only [World.frozen?, h]
  rw [show decide (z0 ≤ j) = false by simp at hz ⊢; omega]
  rfl
theorem RowZ.next {w w' : World} {b : Nat} {t : TypeId} {C : List Value} (h : RowZ w b t C) (hb : Below w.heap.size w w') : RowZ w' b t C := by
  have hl := h.lt
  obtain ⟨z, hz, h⟩ := h
  exact ⟨z, hz, (hb.block b hl).trans h⟩
theorem RowZ.set {w : World} {b : Nat} {t : TypeId} {C : List Value} (h : RowZ w b t C) (j : Nat) (v : Value) : RowZ (w.setCell ⟨b, j, none⟩ v) b t (C.set j v) := by
  obtain ⟨z, hz, h⟩ := h
  obtain ⟨hlt, hk⟩ := Array.getElem?_eq_some_iff.1 h
  refine ⟨z, by simpa using hz, ?_⟩
  show (w.heap.modify b _)[b]? = _
  rw [Array.getElem?_eq_getElem (by rw [Array.size_modify]; exact hlt), Array.getElem_modify_self, hk]
  simp
theorem RowZ.text {w : World} {b : Nat} {t : TypeId} {l : List UInt8} {C : List Value} (h : RowZ w b t (l.map byteV ++ C)) (src dst e : TypeId) (cap : Nat) (hs : P.underlying src = some (.slice e)) (he : P.underlying e = some (.int .u8)) (hd : P.underlying dst = some .string) :
    (convert src dst (.slice (some ⟨b, 0, none⟩) l.length cap)).run P w = .ok (.string ⟨l.toArray⟩) w :=
  run_convert_bytes_back w src dst e ⟨b, 0, none⟩ cap l hs he hd fun j hj => by
    have e : Addr.add ⟨b, 0, none⟩ j = ⟨b, j, none⟩ := by unfold Addr.add; split <;> simp_all
    rw [e, h.cell, List.getElem?_append_left (by simpa using hj)]
    simp [hj, byteV]
theorem RowZ.ofString (w : World) (t : TypeId) (s : ByteArray) (cap : Nat) (l : List UInt8) (hl : s.data.toList = l) :
    ∃ C, RowZ (w.drew.alloc (.cells (bytesRow s cap) t ((bytesRow s cap).size, (bytesRow s cap).size + 1))) w.heap.size t (l.map byteV ++ C) := by
  refine ⟨List.replicate (cap - s.size) (.int .u8 0), ((bytesRow s cap).size, (bytesRow s cap).size + 1), ?_, ?_⟩
  · subst hl
    simp [bytesRow]
  · subst hl
    show (w.heap.push _)[w.heap.size]? = _
    rw [Array.getElem?_push_size]
    congr 2
    apply Array.ext'
    simp [bytesRow]
end

theorem num_set : ∀ (l : List UInt8) (j : Nat) (v x : UInt8), l[j]? = some v → num (l.set j (v ^^^ x)) = num l ^^^ 2 ^ (8 * j) * x.toNat
  | [], _, _, _, h => by simp at h
  | b :: l, 0, v, x, h => by
    simp at h
    subst h
    show (b ^^^ x).toNat + 256 * num l = (b.toNat + 256 * num l) ^^^ 1 * x.toNat
    have h1 := xor_low 8 (num l) b.toNat b.toNat_lt
    have h2 := xor_low 8 (num l) (b ^^^ x).toNat (b ^^^ x).toNat_lt
    rw [Nat.one_mul, Nat.add_comm, Nat.add_comm b.toNat, show 256 * num l = 2 ^ 8 * num l from rfl, ← h1, ← h2, UInt8.toNat_xor]
    ac_rfl
  | b :: l, j + 1, v, x, h => by
    simp at h
    have ih := num_set l j v x h
    show b.toNat + 256 * num (l.set j (v ^^^ x)) = (b.toNat + 256 * num l) ^^^ 2 ^ (8 * (j + 1)) * x.toNat
    have h1 := xor_low 8 (num l) b.toNat b.toNat_lt
    have h2 := xor_low 8 (num (l.set j (v ^^^ x))) b.toNat b.toNat_lt
    rw [Nat.add_comm, Nat.add_comm b.toNat, show ∀ y, 256 * y = 2 ^ 8 * y from fun _ => rfl, show ∀ y, 256 * y = 2 ^ 8 * y from fun _ => rfl, ← h1, ← h2, ih,
      show 2 ^ (8 * (j + 1)) * x.toNat = 2 ^ 8 * (2 ^ (8 * j) * x.toNat) by rw [← Nat.mul_assoc, ← Nat.pow_add]; congr 2; omega,
      Nat.mul_comm (2 ^ 8), Nat.mul_comm (2 ^ 8), Nat.mul_comm (2 ^ 8), ← Nat.shiftLeft_eq, ← Nat.shiftLeft_eq, ← Nat.shiftLeft_eq, Nat.shiftLeft_xor_distrib]
    ac_rfl
theorem burst_one {l : List UInt8} {X from_ B i : Nat} {v x : UInt8} (h : num l = X ^^^ 2 ^ from_ * (B % 2 ^ i)) (hb : B / 2 ^ i % 2 = 1) (hv : l[(from_ + i) / 8]? = some v) (hx : x.toNat = 2 ^ ((from_ + i) % 8)) :
    num (l.set ((from_ + i) / 8) (v ^^^ x)) = X ^^^ 2 ^ from_ * (B % 2 ^ (i + 1)) := by
  have h1 := xor_low i 1 (B % 2 ^ i) (Nat.mod_lt _ (Nat.two_pow_pos i))
  rw [num_set l _ v x hv, h, hx, Nat.mod_pow_succ, hb, Nat.add_comm (B % 2 ^ i), ← h1, Nat.mul_one,
    show 2 ^ (8 * ((from_ + i) / 8)) * 2 ^ ((from_ + i) % 8) = 2 ^ from_ * 2 ^ i by rw [← Nat.pow_add, ← Nat.pow_add]; congr 1; omega,
    Nat.mul_comm _ (2 ^ i ^^^ B % 2 ^ i), Nat.mul_comm _ (2 ^ i), Nat.mul_comm _ (B % 2 ^ i), ← Nat.shiftLeft_eq, ← Nat.shiftLeft_eq, ← Nat.shiftLeft_eq, Nat.shiftLeft_xor_distrib]
  ac_rfl
theorem burst_none {B i : Nat} (hb : B / 2 ^ i % 2 = 0) : B % 2 ^ (i + 1) = B % 2 ^ i := by rw [Nat.mod_pow_succ, hb]; simp
theorem burst_ne {B i : Nat} (hb : B / 2 ^ i % 2 = 1) : B % 2 ^ (i + 1) ≠ 0 := by
  have := Nat.two_pow_pos i
  rw [Nat.mod_pow_succ, hb]
  omega
theorem bit_cast (B k : Nat) : ((B / 2 ^ k % 2 : Nat) : Int) = (B : Int) / 2 ^ k % 2 := by simp
theorem bit_tmod (B k : Nat) : ((B : Int) / 2 ^ k).tmod 2 = ((B / 2 ^ k % 2 : Nat) : Int) := by
  rw [Int.tmod_eq_emod_of_nonneg (Int.ediv_nonneg (by omega) (Int.pow_nonneg (by decide))), bit_cast]
theorem bit_false {B k : Nat} (h : B / 2 ^ k % 2 = 0) : (((B : Int) / 2 ^ k).tmod 2 == 1) = false := by
  rw [bit_tmod, h]
  rfl
theorem bit_true {B k : Nat} (h : B / 2 ^ k % 2 = 1) : (((B : Int) / 2 ^ k).tmod 2 == 1) = true := by
  rw [bit_tmod, h]
  rfl

set_option maxRecDepth 100000 in
set_option maxHeartbeats 4000000 in
theorem wireSumBurst_any (s : ByteArray) (c : Int) (B : Nat) (w : World) (T : Tab w) (a0 : s.size ≤ maxLen) (c0 : -9223372036854775808 ≤ c) (c1 : c ≤ 9223372036854775807) (hB : B < 2 ^ 32) :
    Calls Tryd.prog 8 #[.string s, .int .i64 c, .int .u32 B] w fun r w' => r = .returned (.bool true) ∧ Below w.heap.size w w' := by
  have HT := Lib.hid T
  have BB := Lib.hid (Below.refl w.heap.size w)
  have HT0 := HT
  unfold maxLen at a0
  clear T
  go_enter Tryd.func8, Tryd.ntmps8
  go_wp2_with fail
  refine (sane_any _ HT.out).mono ?_
  rintro e w1 ⟨rfl, hb⟩
  have HB := Lib.hid hb
  have hW : Below w.heap.size w w1 := by (repeat' first | exact Below.refl _ _ | assumption | (refine Below.andThen ?_ HB.out) | (exact HB.out.size) | (refine below_drewN ?_ _) | (refine Below.drew ?_) | (refine Below.alloc ?_ ?_ _) | (refine Below.setCell ?_ ?_ _) | (simp; done) | (simp; omega) | omega)
  replace BB := Lib.hid (Below.andThen BB.out hW)
  replace HT := Lib.hid (HT.out.next hW)
  clear hb hW HB
  obtain ⟨n, hn⟩ : ∃ n : Nat, n = min s.size 300 := ⟨_, rfl⟩
  go_upto_region 2 with (fail)
  go_cut [8] (fun v wx => ∃ cap C, v = .slice (some ⟨w1.heap.size, 0, none⟩) n cap ∧ RowZ wx w1.heap.size 5 ((s.data.toList.take n).map byteV ++ C) ∧ Below w1.heap.size w1 wx)
  case first =>
    have hm : (min (s.size : Int) 300).toNat = n := by omega
    have hx := run_bytes_of_string (P := Tryd.prog) w1 9 38 5 (s.extract 0 n) rfl rfl rfl
    rw [show (s.extract 0 n).size = n by rw [ByteArray.size_extract]; omega] at hx
    have hx2 : ∀ v w', (convert 9 38 (.string (s.extract 0 n))).run Tryd.prog w1 = .ok v w' → (convert 9 38 (.string (s.extract 0 (min (s.size : Int) 300).toNat))).run Tryd.prog w1 = .ok v w' := by
      rw [hm]
      exact fun _ _ h => h
    have hx3 := hx2 _ _ hx
    have HM := Lib.hid (show min s.size 300 = n by omega)
    clear hm hx hx2
    have hr := RowZ.ofString w1 5 (s.extract 0 n) (grownCap w1 n 0 5) (s.data.toList.take n) (by simp)
    have HR := Lib.hid hr
    clear hr
    go_wp2_with fail
    go_meet
    obtain ⟨C, hC⟩ := HR.out
    rw [HM.out]
    exact ⟨_, C, rfl, hC, (Below.refl _ _).drew.alloc (by simp) _⟩
  obtain ⟨cap, C0, rfl, hR0, hB0⟩ := hcut
  rename World => w2
  have HT := Lib.hid (HT.out.next hB0)
  have BB1 := BB
  have BB := Lib.hid (Below.andThen BB.out hB0)
  obtain ⟨b, hb⟩ : ∃ b, b = w1.heap.size := ⟨_, rfl⟩
  rw [← hb] at hR0
  simp only [← hb]
  have HR0 := Lib.hid hR0
  have hbw : w.heap.size ≤ b := by rw [hb]; exact BB1.out.size
  have n1 : n ≤ s.size := by omega
  have n2 : n ≤ 300 := by omega
  clear hB0 hR0 hb hn
  by_cases h : n = 0 ∨ B = 0
  · rcases Nat.eq_zero_or_pos n with rfl | hn
    · go_wp2_with fail
      go_ret
      exact ⟨rfl, BB.out⟩
    · obtain rfl : B = 0 := by omega
      have hn' : n ≠ 0 := by omega
      go_wp2_with fail
      go_ret
      exact ⟨rfl, BB.out⟩
  have h1 : ((n : Int) == 0) = false := by simp; omega
  have h2 : ((B : Int) == 0) = false := by simp; omega
  obtain ⟨p0, p1⟩ := pick_bd c (8 * (n : Int)) (by omega)
  obtain ⟨F, hF⟩ := Int.eq_ofNat_of_zero_le p0
  rw [hF] at p0 p1
  have hp := fun w => pick_any c (8 * (n : Int)) w (by omega) c0 c1
  rw [hF] at hp
  have HP := Lib.hid hp
  clear h hF hp
  go_wp2_with fail
  refine (HP.out _).mono ?_
  rintro e w' ⟨rfl, rfl⟩
  go_wp2_with fail
  clear HP
  obtain ⟨l0, hl0⟩ : ∃ l0 : List UInt8, l0 = s.data.toList.take n := ⟨_, rfl⟩
  have ln0 : l0.length = n := by rw [hl0]; simp; omega
  rw [← hl0] at HR0
  go_loopw [10, 11] (fun ch i wr => ∃ (k : Nat) (l : List UInt8), k ≤ 32 ∧ i = .int .i64 k ∧ ch = .bool (decide (B % 2 ^ k ≠ 0)) ∧ l.length = n ∧ num l = num l0 ^^^ 2 ^ F * (B % 2 ^ k) ∧ RowZ wr b 5 (l.map byteV ++ C0) ∧ Below w.heap.size w wr) (fun _ i _ => 32 - (intOf i).toNat)
  case atStart => exact ⟨0, l0, by omega, rfl, by simp [Nat.mod_one], ln0, by simp [Nat.mod_one], HR0.out, BB.out⟩
  case round =>
    obtain ⟨k, l, hk, rfl, rfl, hl, hN, hR, hB'⟩ := hrel
    by_cases hlt : k < 32 ∧ F + k < 8 * n
    · obtain ⟨hk2, hFk⟩ := hlt
      have q1 : ((k : Int) < 32) := by omega
      have q2 : ((F : Int) + k < 8 * n) := by omega
      have HB := Lib.hid hB'
      have HR := Lib.hid hR
      have HN := Lib.hid hN
      clear hB' hR hN HR0 HT BB BB1 hk
      rcases Nat.mod_two_eq_zero_or_one (B / 2 ^ k) with hb1 | hb1
      · have hd := bit_false hb1
        go_wp2_with fail
        exact ⟨⟨k + 1, l, by omega, by go_num, by rw [burst_none hb1], hl, by rw [burst_none hb1]; exact HN.out, HR.out, HB.out⟩, by simp [intOf]; omega⟩
      · have hd := bit_true hb1
        obtain ⟨J, hJ⟩ : ∃ J, J = (F + k) / 8 := ⟨_, rfl⟩
        obtain ⟨R, hRr⟩ : ∃ R, R = (F + k) % 8 := ⟨_, rfl⟩
        have e8 : ((F : Int) + k).tdiv 8 = J := by rw [Int.tdiv_eq_ediv_of_nonneg (by omega)]; omega
        have e9 : ((F : Int) + k).tmod 8 = R := by rw [Int.tmod_eq_emod_of_nonneg (by omega)]; omega
        have j1 : J < n := by omega
        have j2 : R < 8 := by omega
        obtain ⟨v, hv⟩ : ∃ v, l[J]? = some v := ⟨_, List.getElem?_eq_getElem (by omega)⟩
        have hc : wr.cell? ⟨b, J, none⟩ = some (.int .u8 v.toNat) := by
          rw [HR.out.cell, List.getElem?_append_left (by simp; omega), List.getElem?_map, hv]
          rfl
        have hbl := HR.out.lt
        have HV := Lib.hid hv
        have HJ := Lib.hid hJ
        have HRr := Lib.hid hRr
        clear hv hJ hRr
        go_wp2_with fail
        refine wp_region_kin_tail 13 (by kernel_rfl) (by kernel_rfl) wr.heap.size 0 (by simp) (fun hk => ?_)
        simp only [List.take_succ_cons, List.take_zero, List.drop_succ_cons, List.drop_zero]
        repeat (go_big_quiet_step (fail))
        refine wpQuiet_nil ?_
        clear hk hc
        intro W2 hb
        have HR2 := Lib.hid (HR.out.next hb)
        have hc := HR2.out.cell J
        rw [List.getElem?_append_left (by simp; omega), List.getElem?_map, HV.out] at hc
        have hf := HR2.out.frozen J (by simp; omega)
        have HB2 := Lib.hid (Below.andThen HB.out hb)
        clear hb hbl
        go_wp2
        obtain ⟨x, hx⟩ : ∃ x : UInt8, x.toNat = 2 ^ R := ⟨UInt8.ofNat (2 ^ R), by rw [UInt8.toNat_ofNat']; exact Nat.mod_eq_of_lt (Nat.pow_lt_pow_right (by decide) j2)⟩
        have ev : Value.int .u8 (bits BinOp.xor .u8 (v.toNat : Int) (2 ^ R % 256)) = byteV (v ^^^ x) := by
          have e1 : ((2 : Int) ^ R % 256) = (x.toNat : Int) := by
            have h1 := x.toNat_lt
            have h2 : ((x.toNat : Nat) : Int) = 2 ^ R := by rw [hx]; simp
            rw [← h2]
            omega
          rw [e1, xor8]
        have hset : ((l.map byteV ++ C0).set J (byteV (v ^^^ x))) = (l.set J (v ^^^ x)).map byteV ++ C0 := by
          rw [List.set_append_left _ _ (by simp; omega), List.map_set]
        have hone := burst_one HN.out hb1 (HJ.out ▸ HV.out) (by rw [hx, HRr.out])
        rw [ev]
        refine ⟨⟨k + 1, l.set J (v ^^^ x), by omega, by go_num, ?_, by simp [hl], ?_, ?_, HB2.out.setCell hbw _⟩, by simp [intOf]; omega⟩
        · rw [decide_eq_true (burst_ne hb1)]
        · rw [HJ.out]
          exact hone
        · rw [← hset]
          exact HR2.out.set J _
    · have hl0' : List.take n s.data.toList = l0 := hl0.symm
      have hbst := sum_burst (a := l) (b := l0) (by omega) (from_ := F) (W := B % 2 ^ k) (by omega) (Nat.lt_of_le_of_lt (Nat.mod_le _ _) hB) hN
      have HE := Lib.hid (show ((!decide (B % 2 ^ k = 0)) == ((sumN l : Int) != (sumN (List.take n s.data.toList) : Int))) = true by
        rw [hl0']
        by_cases h0 : B % 2 ^ k = 0
        · rw [hbst.2 h0]
          simp [h0]
        · have h1 : ((sumN l : Int) != (sumN l0 : Int)) = true := by
            have : ¬ sumN l = sumN l0 := fun h => h0 (hbst.1 h)
            rw [bne_iff_ne]
            omega
          rw [h1]
          simp [h0])
      have hx := fun (q : Kin wr) => RowZ.text (P := Tryd.prog) (hR.next q.below) 38 9 5 cap rfl rfl rfl
      rw [hl] at hx
      have hs0 := Lib.hid (show (⟨l.toArray⟩ : ByteArray).size ≤ maxLen by unfold maxLen; show l.toArray.size ≤ _; simp [hl]; omega)
      have BB := Lib.hid hB'
      have HT := Lib.hid (HT0.out.next hB')
      clear hB' hR hN HR0 BB1 HT0 hbst hl0 hl0'
      by_cases hk2 : k < 32
      · have q1 : ((k : Int) < 32) := by omega
        have q2 : decide ((F : Int) + k < 8 * n) = false := by rw [decide_eq_false_iff_not]; omega
        clear hlt
        go_wp2_with fail
        refine wp_region_kin (by kernel_rfl) (by kernel_rfl) (wr.heap.size) 0 (by first | assumption | (simp; done) | (simp; omega) | omega | (have := HS.out; omega)) (fun hk => ?_)
        repeat (go_big_quiet_step ((go_at_call 21; exact Calls.kin_same (sum_any _ _ (by first | exact hs0.out | (unfold maxLen; rw [ByteArray.size_extract]; omega)) (HT.out.next (Kin.below _))))))
        refine wpQuiet_nil ?_
        clear hk
        intro w9 hb
        have HB := Lib.hid hb
        have hW : Below wr.heap.size wr w9 := by (repeat' first | exact Below.refl _ _ | assumption | (refine Below.andThen ?_ HB.out) | (exact HB.out.size) | (refine below_drewN ?_ _) | (refine Below.drew ?_) | (refine Below.alloc ?_ ?_ _) | (refine Below.setCell ?_ ?_ _) | (simp; done) | (simp; omega) | omega)
        replace BB := Lib.hid (Below.andThen BB.out hW)
        replace HT := Lib.hid (HT.out.next hW)
        clear hb hW HB
        rw [HE.out]
        go_wp2_with fail
        go_ret
        exact ⟨rfl, BB.out⟩
      · have q1 : decide ((k : Int) < 32) = false := by rw [decide_eq_false_iff_not]; omega
        clear hlt
        go_wp2_with fail
        refine wp_region_kin (by kernel_rfl) (by kernel_rfl) (wr.heap.size) 0 (by first | assumption | (simp; done) | (simp; omega) | omega | (have := HS.out; omega)) (fun hk => ?_)
        repeat (go_big_quiet_step ((go_at_call 21; exact Calls.kin_same (sum_any _ _ (by first | exact hs0.out | (unfold maxLen; rw [ByteArray.size_extract]; omega)) (HT.out.next (Kin.below _))))))
        refine wpQuiet_nil ?_
        clear hk
        intro w9 hb
        have HB := Lib.hid hb
        have hW : Below wr.heap.size wr w9 := by (repeat' first | exact Below.refl _ _ | assumption | (refine Below.andThen ?_ HB.out) | (exact HB.out.size) | (refine below_drewN ?_ _) | (refine Below.drew ?_) | (refine Below.alloc ?_ ?_ _) | (refine Below.setCell ?_ ?_ _) | (simp; done) | (simp; omega) | omega)
        replace BB := Lib.hid (Below.andThen BB.out hW)
        replace HT := Lib.hid (HT.out.next hW)
        clear hb hW HB
        rw [HE.out]
        go_wp2_with fail
        go_ret
        exact ⟨rfl, BB.out⟩
theorem bd_u32 {n : Int} (h : (Lit.int .u32 n).wf = true) : 0 ≤ n ∧ n ≤ 4294967295 := by
  simpa [Lit.wf, IntKind.min, IntKind.max, IntKind.signed, IntKind.bits] using h
theorem wireSumBurst_all (s : ByteArray) (c n : Int) (w : World) (T : Tab w) (a0 : s.size ≤ maxLen) (a1 : -9223372036854775808 ≤ c ∧ c ≤ 9223372036854775807) (a2 : 0 ≤ n ∧ n ≤ 4294967295) :
    Calls Tryd.prog 8 #[.string s, .int .i64 c, .int .u32 n] w fun r w' => r = .returned (.bool true) ∧ Below w.heap.size w w' := by
  obtain ⟨B, rfl⟩ := Int.eq_ofNat_of_zero_le a2.1
  exact wireSumBurst_any s c B w T a0 a1.1 a1.2 (by omega)
namespace wireSumBurst
set_option maxRecDepth 100000 in
theorem contract (H : Type) (enc : TypeId × Value → H) (W : World) (base : Nat) (args : Array Value) (ds gs : List (DataW H)) (before : List MemPlace)
    (hval : ∀ (j : Nat) t v, Tryd.f8.params[j]? = some t → args[j]? = some v → Value.okWide Tryd.prog W .any base t v)
    (hW : DataW.Whole enc Tryd.prog Tryd.f8.params.toList Rows.wireSumBurstSpec.vars false W args.toList ds gs before) (hL : laidMetH Tryd.prog Rows.wireSumBurstRow.laid W) :
    Calls Tryd.prog 8 args W fun e W' => ∃ v, e = .returned v ∧ Rows.wireSumBurstSpec.post enc Tryd.prog Tryd.f8 false true false false W args v W' := by
  have hW' := hW
  obtain ⟨p, q, hA0, hV, rfl, hfz, hnd⟩ := hW
  have hA : DataW.TrodAll enc Tryd.prog W 0 (fun _ => true) true Tryd.f8.params.toList args.toList ds p := hA0
  rw [Tryd.params8] at hA hval
  obtain ⟨v0, vs0, d0, ds0, p0, q0, hargs, rfl, rfl, h0, r0⟩ := trodAll_cons hA
  obtain ⟨v1, vs1, d1, ds1, p1, q1, rfl, rfl, rfl, h1, r1⟩ := trodAll_cons r0
  obtain ⟨v2, vs2, d2, ds2, p2, q2, rfl, rfl, rfl, h2, r2⟩ := trodAll_cons r1
  obtain ⟨rfl, rfl, rfl⟩ := trodAll_nil r2
  obtain rfl : args = #[v0, v1, v2] := by cases args; simp_all
  obtain ⟨a0, rfl, rfl, rfl, k0⟩ := Go.ChangeMaps.open_string Tryd.underlying9 (hval 0 _ _ rfl rfl) h0
  obtain ⟨a1, rfl, rfl, rfl, k1⟩ := open_int Tryd.underlying3 (hval 1 _ _ rfl rfl) h1
  obtain ⟨a2, rfl, rfl, rfl, k2⟩ := open_int Tryd.underlying43 (hval 2 _ _ rfl rfl) h2
  refine (wireSumBurst_all a0 a1 a2 W (tab hL) k0 (bd_i64 k1) (bd_u32 k2)).mono fun e W' ⟨he, hb⟩ => ?_
  subst he
  obtain ⟨rfl, _⟩ := trodVars_none hV
  exact ⟨_, rfl, law_post laidOut (by kernel_rfl) rfl (by kernel_rfl) Tryd.underlying4 hW' rfl hb⟩

def args0 : Array Value := #[.string ⟨#[]⟩, .int .i64 0, .int .u32 0]
theorem laid_met (os : Os) : laidMet Tryd.prog Rows.wireSumBurstRow.laid ((laidWorld os).forCall (fun _ _ => 0) ⟨#[], args0, []⟩).memory :=
  laidMet_of_run' 8 (by kernel_rfl) (by kernel_rfl)
theorem reads (os : Os) {H : Type} (enc : TypeId × Value → H) : ∃ places, DataW.whole enc Tryd.prog ((laidWorld os).forCall (fun _ _ => 0) ⟨#[], args0, []⟩).memory Tryd.f8.params.toList Rows.wireSumBurstSpec.vars false args0.toList 8 = some ([.lit (.string []), .lit (.int .i64 0), .lit (.int .u32 0)], [], places) :=
  ⟨[], by kernel_rfl⟩

set_option maxRecDepth 100000 in
theorem lifted (os : Os) (started : os.Started) (H : Type) (enc : TypeId × Value → H) (F : Stop.Interp) :
    ReturnsInHanded {} Tryd.checked os 8 .any ((OpenSpec.ofChange Rows.wireSumBurstSpec).preRow enc Tryd.prog Tryd.f8 Rows.wireSumBurstRow.domain false Rows.wireSumBurstRow.laid) (((OpenSpec.ofChange Rows.wireSumBurstSpec).at F).post enc Tryd.prog Tryd.f8 false true false false) := by
  obtain ⟨places, hx⟩ := reads os enc
  refine returnsInHanded_of_row (C := Tryd.checked) (s := OpenSpec.ofChange Rows.wireSumBurstSpec) own started (by kernel_rfl) Tryd.func8
    (witness_row_at (enc := enc) (C := Tryd.checked) false (laidWorld os) args0 rfl (by kernel_rfl) (by kernel_rfl) (by kernel_rfl)
      (OpenSpec.preRow_of_cond 8 hx (by kernel_rfl) (fun k hk => by cases hk) (by kernel_rfl) (laid_met os))) ?_
  intro W base args ds gs before hval hW _ _ _ hL _ _
  exact contract H enc W base args ds gs before hval hW hL

theorem said : Rows.WireSumBurstSaid :=
  OpenClaim.holds_of_cond 8 Tryd.f8 rfl rfl rfl rfl rfl rfl rfl ⟨rfl, rfl, rfl, rfl, rfl⟩ rfl rfl rfl rfl rfl (by kernel_rfl) Tryd.func8 (by kernel_rfl)
    (of_decide_eq_true (by kernel_rfl)) (by unfold Func.isWrapper; first | (rw [if_pos (by decide +kernel)]; kernel_rfl) | (rw [if_neg (by decide +kernel)]; exact ⟨rfl, rfl⟩))
    (fun os started H enc _ F => by rw [OpenClaim.pre_eq_preRow]; exact lifted os started H enc F)

theorem plain (f : FuncId) (fn : Func) (hf : Tryd.pinned.checked.prog.funcNamed "newswire/newswirelaw01.WireSumBurst" = some f) (hfn : Tryd.pinned.checked.prog.funcs[f]? = some fn) :
    false = Tryd.pinned.checked.prog.looks [] ∧ ∀ (j : Nat) t, fn.params[j]? = some t → Tryd.pinned.checked.prog.wantsStandIn t = false := by
  obtain rfl : f = 8 := Option.some.inj ((show Tryd.prog.funcNamed "newswire/newswirelaw01.WireSumBurst" = some 8 by kernel_rfl).symm.trans hf) |>.symm
  obtain rfl : fn = Tryd.f8 := (Option.some.inj (Tryd.func8.symm.trans hfn)).symm
  refine ⟨by kernel_rfl, fun j t ht => ?_⟩
  have all : (Tryd.f8.params.toList.all fun t => Tryd.prog.wantsStandIn t == false) = true := by kernel_rfl
  have := List.all_eq_true.1 all t (by rw [← Array.mem_def]; exact Array.mem_of_getElem? ht)
  exact (show Tryd.prog.wantsStandIn t = false by simpa using this)

/-- The statement. -/
theorem card : Rows.WireSumBurstCardSaid :=
  Claim7.holds_tied_plain_at .later [] _ _ _ _ said (fun _ h => by cases h) (by kernel_rfl) (fun _ h => by cases h) wireSumBurst_row_tie rfl ⟨rfl, rfl⟩ (by kernel_rfl) rfl plain (by kernel_rfl)
end wireSumBurst
end Go.Proofs.YtncmbgdpmfoohaaDoor
