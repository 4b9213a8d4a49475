/- WireUnique: what is accepted is what is written for the value. -/
import Derived.Test.YtncmbgdpmfoohaaDoorWireBurst
import Derived.Test.YtncmbgdpmfoohaaDoorWireCutLaw
namespace Go.Proofs.YtncmbgdpmfoohaaDoor
open Go.RowKit Go.ChangeShapes Go.WideShapes Go.ChangeAt

theorem extract_list (s : ByteArray) (i j : Nat) : (s.extract i j).data.toList = (s.data.toList.drop i).take (j - i) := by simp
theorem int_exact (s : ByteArray) {k : Nat} (hk : k ≤ s.size) : intR s.data.toList k = (0, 0, 10) ∨
    ∃ (n : Int) (x : Nat), intR s.data.toList k = (n, (x : Int), 0) ∧ -maxI ≤ n ∧ n ≤ maxI ∧ k < x ∧ x ≤ s.size ∧ s.extract k x = encS n := by
  have hl : s.data.toList.length = s.size := by simp
  rcases h : dec (s.data.toList.drop k) 0 0 with _ | ⟨n, m⟩
  · left
    unfold intR
    rw [if_neg (by omega), Int.toNat_natCast, h]
  · right
    have hr : intR s.data.toList k = (n, ((k + m : Nat) : Int), 0) := by
      unfold intR
      rw [if_neg (by omega), Int.toNat_natCast, h]
      simp
    obtain ⟨h1, h2, h3, h4, h5⟩ := intR_ok hr
    refine ⟨n, k + m, hr, h4, h5, by omega, by omega, ?_⟩
    obtain ⟨z, e1, _, _, _, _, _, _, e8⟩ := enc_dec _ _ _ _ _ h
    have hz : z = foldZ n := by rw [e1, Nat.pow_zero, Nat.mul_one, Nat.zero_add, fold_un]
    apply ByteArray.ext
    apply Array.ext'
    rw [extract_list, encS_list, ← hz, ← e8]
    congr 1
    omega
theorem str_exact (s : ByteArray) {k : Nat} (hk : k ≤ s.size) : strR s k = (⟨#[]⟩, 0, 10) ∨
    ∃ (v : ByteArray) (x : Nat), strR s k = (v, (x : Int), 0) ∧ v.size ≤ 65536 ∧ k < x ∧ x ≤ s.size ∧ s.extract k x = encS v.size ++ v := by
  rcases int_exact s hk with h | ⟨n, x, h, h1, h2, h3, h4, h5⟩
  · left
    unfold strR
    rw [h]
    rfl
  · by_cases hg : n < 0 ∨ 65536 < n ∨ (s.size : Int) - x < n
    · left
      unfold strR
      rw [h]
      simp only [ne_eq, not_true, if_false]
      rw [if_pos hg]
    · right
      obtain ⟨m, rfl⟩ := Int.eq_ofNat_of_zero_le (show 0 ≤ n by omega)
      have hv : (s.extract x (x + m)).size = m := by rw [ByteArray.size_extract]; omega
      refine ⟨s.extract x (x + m), x + m, ?_, by omega, by omega, by omega, ?_⟩
      · unfold strR
        rw [h]
        simp only [ne_eq, not_true, if_false]
        rw [if_neg hg]
        simp
      · rw [hv, ← h5]
        apply ByteArray.ext
        apply Array.ext'
        rw [extract_list, toList_append, extract_list, extract_list, show x + m - k = (x - k) + m by omega, List.take_add, List.drop_drop, show x + m - x = m by omega, show k + (x - k) = x by omega]
theorem putV_ok {n : Int} (h1 : -maxI ≤ n) (h2 : n ≤ maxI) : putV n = .tuple #[.string (encS n), .int .i64 0] := by
  unfold putV putR encS
  rw [if_pos ⟨h1, h2⟩]
theorem putSV_ok {v : ByteArray} (h : v.size ≤ 65536) : putSV v = .tuple #[.string (encS v.size ++ v), .int .i64 0] := by
  unfold putSV putSR
  rw [if_neg (by omega)]
theorem put_v {f : FuncId} {args : Array Value} {w : World} {a b : Value} (h : a = b) (hc : Calls Tryd.prog f args w fun r w' => r = .returned a ∧ Below w.heap.size w w') :
    Calls Tryd.prog f args w fun r w' => r = .returned b ∧ Below w.heap.size w w' := h ▸ hc
theorem run_one_byte {P : Program} (w : World) (src dst e : TypeId) (b cap : Nat) (f : UInt8) (hs : P.underlying src = some (.slice e)) (he : P.underlying e = some (.int .u8)) (hd : P.underlying dst = some .string)
    (h : w.cell? ⟨b, 0, none⟩ = some (.int .u8 f.toNat)) : (convert src dst (.slice (some ⟨b, 0, none⟩) 1 cap)).run P w = .ok (.string ⟨#[f]⟩) w :=
  run_convert_bytes_back w src dst e ⟨b, 0, none⟩ cap [f] hs he hd fun j hj => by
    obtain rfl : j = 0 := by simpa using hj
    have e : Addr.add ⟨b, 0, none⟩ 0 = ⟨b, 0, none⟩ := by unfold Addr.add; split <;> simp_all
    rw [e, h]
    rfl

set_option maxRecDepth 100000 in
set_option maxHeartbeats 4000000 in
theorem wireUnique_any (s : ByteArray) (c : Int) (f : UInt8) (w : World) (T : Tab w) (a0 : s.size ≤ maxLen) (c0 : -9223372036854775808 ≤ c) (c1 : c ≤ 9223372036854775807) :
    Calls Tryd.prog 5 #[.string s, .int .i64 c, .int .u8 f.toNat] w fun r w' => r = .returned (.bool true) ∧ Below w.heap.size w w' := by
  have HT := Lib.hid T
  have BB := Lib.hid (Below.refl w.heap.size w)
  have HT0 := HT
  unfold maxLen at a0
  clear T
  go_enter Tryd.func5, Tryd.ntmps5
  go_wp2_with fail
  refine (sane_any _ HT.out).mono ?_
  rintro e w1 ⟨rfl, hb⟩
  have HB := Lib.hid hb
  have hW : Below w.heap.size w w1 := by (repeat' first | exact Below.refl _ _ | assumption | (refine Below.andThen ?_ HB.out) | (exact HB.out.size) | (refine below_drewN ?_ _) | (refine Below.drew ?_) | (refine Below.alloc ?_ ?_ _) | (refine Below.setCell ?_ ?_ _) | (simp; done) | (simp; omega) | omega)
  replace BB := Lib.hid (Below.andThen BB.out hW)
  replace HT := Lib.hid (HT.out.next hW)
  clear hb hW HB
  obtain ⟨n, hn⟩ : ∃ n : Nat, n = min s.size 300 := ⟨_, rfl⟩
  obtain ⟨t, ht⟩ : ∃ t : ByteArray, t = (⟨#[f]⟩ : ByteArray) ++ s.extract 0 n := ⟨_, rfl⟩
  go_upto_region 2 with (fail)
  go_cut [8] (fun v wx => v = .string t ∧ Below w1.heap.size w1 wx)
  case first =>
    have hcv := fun (W : World) (b cap : Nat) => run_one_byte (P := Tryd.prog) W 38 9 5 b cap f rfl rfl rfl
    have HM := Lib.hid (show (min (s.size : Int) 300).toNat = n by omega)
    have H1 := Lib.hid ht
    clear ht
    go_region
    go_wp2
    go_meet
    exact ⟨by rw [HM.out, H1.out], ((Below.refl _ _).alloc (by simp) _).drew⟩
  obtain ⟨rfl, hB0⟩ := hcut
  rename World => w2
  replace HT := Lib.hid (HT.out.next hB0)
  replace BB := Lib.hid (Below.andThen BB.out hB0)
  have ts : t.size ≤ 301 := by
    rw [ht, ByteArray.size_append, ByteArray.size_extract]
    show 1 + _ ≤ 301
    omega
  clear hB0 ht hn
  obtain ⟨p0, p1⟩ := pick_bd c ((t.size : Int) + 1) (by omega)
  obtain ⟨F, hF⟩ := Int.eq_ofNat_of_zero_le p0
  rw [hF] at p0 p1
  have hp := fun w => pick_any c ((t.size : Int) + 1) w (by omega) c0 c1
  rw [hF] at hp
  have HP := Lib.hid hp
  clear hF hp
  go_wp2_with fail
  refine (same_below (HP.out _)).mono ?_
  rintro e w3 ⟨rfl, hb⟩
  have HB := Lib.hid hb
  have hW : Below w2.heap.size w2 w3 := by (repeat' first | exact Below.refl _ _ | assumption | (refine Below.andThen ?_ HB.out) | (exact HB.out.size) | (refine below_drewN ?_ _) | (refine Below.drew ?_) | (refine Below.alloc ?_ ?_ _) | (refine Below.setCell ?_ ?_ _) | (simp; done) | (simp; omega) | omega)
  replace BB := Lib.hid (Below.andThen BB.out hW)
  replace HT := Lib.hid (HT.out.next hW)
  clear hb hW HB
  clear HP
  go_wp2_with fail
  have hrow : Row (w3.alloc (.cells #[.int .i64 0, .int .i64 F] 3)) w3.heap.size 3 [.int .i64 0, .int .i64 F] := Row.new _ _ _
  have R0 := Lib.hid hrow
  have HBw := Lib.hid ((BB.out).alloc BB.out.size (.cells #[.int .i64 0, .int .i64 F] 3))
  obtain ⟨b, hb⟩ : ∃ b, b = w3.heap.size := ⟨_, rfl⟩
  rw [← hb] at R0 ⊢
  generalize w3.alloc (.cells #[.int .i64 0, .int .i64 F] 3) = w4 at *
  clear hrow hb
  go_loopw [38] (fun i wr => ∃ k : Nat, k ≤ 2 ∧ i = .int .i64 k ∧ Row wr b 3 [.int .i64 0, .int .i64 F] ∧ Below w.heap.size w wr) (fun i _ => 2 - (intOf i).toNat)
  case atStart => exact ⟨0, by omega, rfl, R0.out, HBw.out⟩
  case round =>
    obtain ⟨k, hk, rfl, hR, hB⟩ := hrel
    by_cases hlt : k < 2
    · obtain ⟨r, hr, hrt⟩ : ∃ r : Nat, [Value.int .i64 0, Value.int .i64 F][k]? = some (.int .i64 r) ∧ r ≤ t.size := by
        rcases (show k = 0 ∨ k = 1 by omega) with rfl | rfl
        · exact ⟨0, rfl, Nat.zero_le _⟩
        · exact ⟨F, rfl, by omega⟩
      have hc : wr.cell? ⟨b, k, none⟩ = some (.int .i64 r) := by rw [hR.cell]; exact hr
      have HR := Lib.hid hR
      have HB := Lib.hid hB
      have HT := Lib.hid (HT0.out.next hB)
      have BB := Lib.hid (Below.refl wr.heap.size wr)
      clear hR hB hr HBw R0 HT0
      rcases int_exact t hrt with e | ⟨m, x, e, m1, m2, x1, x2, E⟩
      · have CI := Lib.hid (fun w => same_v (show intV (intR t.data.toList r) = .tuple #[.int .i64 0, .int .i64 0, .int .i64 10] by rw [e]; rfl) (int_any t r w (by unfold maxLen; omega) (by omega) (by omega)))
        have CP := Lib.hid (fun w => put_v (putV_ok (n := 0) (by decide) (by decide)) (put_any 0 w))
        clear e
        go_wp2_with fail
        refine (CI.out _).mono ?_
        rintro e w4 ⟨rfl, hb⟩
        have HB := Lib.hid hb
        have hW : Below wr.heap.size wr w4 := by (repeat' first | exact Below.refl _ _ | assumption | (refine Below.andThen ?_ HB.out) | (exact HB.out.size) | (refine below_drewN ?_ _) | (refine Below.drew ?_) | (refine Below.alloc ?_ ?_ _) | (refine Below.setCell ?_ ?_ _) | (simp; done) | (simp; omega) | omega)
        replace BB := Lib.hid (Below.andThen BB.out hW)
        replace HT := Lib.hid (HT.out.next hW)
        clear hb hW HB
        clear CI
        go_wp2_with fail
        refine (CP.out _).mono ?_
        rintro e w5 ⟨rfl, hb⟩
        have HB := Lib.hid hb
        have hW : Below w4.heap.size w4 w5 := by (repeat' first | exact Below.refl _ _ | assumption | (refine Below.andThen ?_ HB.out) | (exact HB.out.size) | (refine below_drewN ?_ _) | (refine Below.drew ?_) | (refine Below.alloc ?_ ?_ _) | (refine Below.setCell ?_ ?_ _) | (simp; done) | (simp; omega) | omega)
        replace BB := Lib.hid (Below.andThen BB.out hW)
        replace HT := Lib.hid (HT.out.next hW)
        clear hb hW HB
        clear CP
        rcases str_exact t hrt with e' | ⟨v, x', e', v1, z1, z2, E'⟩
        · have CS := Lib.hid (fun w => same_v (show strV (strR t r) = .tuple #[.string ⟨#[]⟩, .int .i64 0, .int .i64 10] by rw [e']; rfl) (string_any t r w (by unfold maxLen; omega) (by omega) (by omega)))
          have CQ := Lib.hid (fun w => put_v (putSV_ok (v := ⟨#[]⟩) (by decide)) (putString_any ⟨#[]⟩ w (by unfold maxLen; decide)))
          clear e'
          go_wp2_with fail
          refine (CS.out _).mono ?_
          rintro e w6 ⟨rfl, hb⟩
          have HB := Lib.hid hb
          have hW : Below w5.heap.size w5 w6 := by (repeat' first | exact Below.refl _ _ | assumption | (refine Below.andThen ?_ HB.out) | (exact HB.out.size) | (refine below_drewN ?_ _) | (refine Below.drew ?_) | (refine Below.alloc ?_ ?_ _) | (refine Below.setCell ?_ ?_ _) | (simp; done) | (simp; omega) | omega)
          replace BB := Lib.hid (Below.andThen BB.out hW)
          replace HT := Lib.hid (HT.out.next hW)
          clear hb hW HB
          clear CS
          go_wp2_with fail
          refine (CQ.out _).mono ?_
          rintro e w7 ⟨rfl, hb⟩
          have HB := Lib.hid hb
          have hW : Below w6.heap.size w6 w7 := by (repeat' first | exact Below.refl _ _ | assumption | (refine Below.andThen ?_ HB.out) | (exact HB.out.size) | (refine below_drewN ?_ _) | (refine Below.drew ?_) | (refine Below.alloc ?_ ?_ _) | (refine Below.setCell ?_ ?_ _) | (simp; done) | (simp; omega) | omega)
          replace BB := Lib.hid (Below.andThen BB.out hW)
          replace HT := Lib.hid (HT.out.next hW)
          clear hb hW HB
          clear CQ
          go_wp2_with fail
          exact ⟨⟨k + 1, by omega, by go_num, HR.out.next BB.out, Below.andThen HB.out BB.out⟩, by simp [intOf]; omega⟩
        · have y1' : decide ((x' : Int) < (r : Int)) = false := by rw [decide_eq_false_iff_not]; omega
          have y2' : decide ((t.size : Int) < (x' : Int)) = false := by rw [decide_eq_false_iff_not]; omega
          have CS := Lib.hid (fun w => same_v (show strV (strR t r) = .tuple #[.string v, .int .i64 x', .int .i64 0] by rw [e']; rfl) (string_any t r w (by unfold maxLen; omega) (by omega) (by omega)))
          have CQ := Lib.hid (fun w => put_v (putSV_ok (v := v) v1) (putString_any v w (by unfold maxLen; omega)))
          clear e'
          go_wp2_with fail
          refine (CS.out _).mono ?_
          rintro e w6 ⟨rfl, hb⟩
          have HB := Lib.hid hb
          have hW : Below w5.heap.size w5 w6 := by (repeat' first | exact Below.refl _ _ | assumption | (refine Below.andThen ?_ HB.out) | (exact HB.out.size) | (refine below_drewN ?_ _) | (refine Below.drew ?_) | (refine Below.alloc ?_ ?_ _) | (refine Below.setCell ?_ ?_ _) | (simp; done) | (simp; omega) | omega)
          replace BB := Lib.hid (Below.andThen BB.out hW)
          replace HT := Lib.hid (HT.out.next hW)
          clear hb hW HB
          clear CS
          go_wp2_with fail
          refine (CQ.out _).mono ?_
          rintro e w7 ⟨rfl, hb⟩
          have HB := Lib.hid hb
          have hW : Below w6.heap.size w6 w7 := by (repeat' first | exact Below.refl _ _ | assumption | (refine Below.andThen ?_ HB.out) | (exact HB.out.size) | (refine below_drewN ?_ _) | (refine Below.drew ?_) | (refine Below.alloc ?_ ?_ _) | (refine Below.setCell ?_ ?_ _) | (simp; done) | (simp; omega) | omega)
          replace BB := Lib.hid (Below.andThen BB.out hW)
          replace HT := Lib.hid (HT.out.next hW)
          clear hb hW HB
          clear CQ
          go_wp2_with fail
          exact ⟨⟨k + 1, by omega, by go_num, HR.out.next BB.out, Below.andThen HB.out BB.out⟩, by simp [intOf]; omega⟩
      · have y1 : decide ((x : Int) < (r : Int)) = false := by rw [decide_eq_false_iff_not]; omega
        have y2 : decide ((t.size : Int) < (x : Int)) = false := by rw [decide_eq_false_iff_not]; omega
        have CI := Lib.hid (fun w => same_v (show intV (intR t.data.toList r) = .tuple #[.int .i64 m, .int .i64 x, .int .i64 0] by rw [e]; rfl) (int_any t r w (by unfold maxLen; omega) (by omega) (by omega)))
        have CP := Lib.hid (fun w => put_v (putV_ok (n := m) m1 m2) (put_any m w))
        clear e
        go_wp2_with fail
        refine (CI.out _).mono ?_
        rintro e w4 ⟨rfl, hb⟩
        have HB := Lib.hid hb
        have hW : Below wr.heap.size wr w4 := by (repeat' first | exact Below.refl _ _ | assumption | (refine Below.andThen ?_ HB.out) | (exact HB.out.size) | (refine below_drewN ?_ _) | (refine Below.drew ?_) | (refine Below.alloc ?_ ?_ _) | (refine Below.setCell ?_ ?_ _) | (simp; done) | (simp; omega) | omega)
        replace BB := Lib.hid (Below.andThen BB.out hW)
        replace HT := Lib.hid (HT.out.next hW)
        clear hb hW HB
        clear CI
        go_wp2_with fail
        refine (CP.out _).mono ?_
        rintro e w5 ⟨rfl, hb⟩
        have HB := Lib.hid hb
        have hW : Below w4.heap.size w4 w5 := by (repeat' first | exact Below.refl _ _ | assumption | (refine Below.andThen ?_ HB.out) | (exact HB.out.size) | (refine below_drewN ?_ _) | (refine Below.drew ?_) | (refine Below.alloc ?_ ?_ _) | (refine Below.setCell ?_ ?_ _) | (simp; done) | (simp; omega) | omega)
        replace BB := Lib.hid (Below.andThen BB.out hW)
        replace HT := Lib.hid (HT.out.next hW)
        clear hb hW HB
        clear CP
        rcases str_exact t hrt with e' | ⟨v, x', e', v1, z1, z2, E'⟩
        · have CS := Lib.hid (fun w => same_v (show strV (strR t r) = .tuple #[.string ⟨#[]⟩, .int .i64 0, .int .i64 10] by rw [e']; rfl) (string_any t r w (by unfold maxLen; omega) (by omega) (by omega)))
          have CQ := Lib.hid (fun w => put_v (putSV_ok (v := ⟨#[]⟩) (by decide)) (putString_any ⟨#[]⟩ w (by unfold maxLen; decide)))
          clear e'
          go_wp2_with fail
          refine (CS.out _).mono ?_
          rintro e w6 ⟨rfl, hb⟩
          have HB := Lib.hid hb
          have hW : Below w5.heap.size w5 w6 := by (repeat' first | exact Below.refl _ _ | assumption | (refine Below.andThen ?_ HB.out) | (exact HB.out.size) | (refine below_drewN ?_ _) | (refine Below.drew ?_) | (refine Below.alloc ?_ ?_ _) | (refine Below.setCell ?_ ?_ _) | (simp; done) | (simp; omega) | omega)
          replace BB := Lib.hid (Below.andThen BB.out hW)
          replace HT := Lib.hid (HT.out.next hW)
          clear hb hW HB
          clear CS
          go_wp2_with fail
          refine (CQ.out _).mono ?_
          rintro e w7 ⟨rfl, hb⟩
          have HB := Lib.hid hb
          have hW : Below w6.heap.size w6 w7 := by (repeat' first | exact Below.refl _ _ | assumption | (refine Below.andThen ?_ HB.out) | (exact HB.out.size) | (refine below_drewN ?_ _) | (refine Below.drew ?_) | (refine Below.alloc ?_ ?_ _) | (refine Below.setCell ?_ ?_ _) | (simp; done) | (simp; omega) | omega)
          replace BB := Lib.hid (Below.andThen BB.out hW)
          replace HT := Lib.hid (HT.out.next hW)
          clear hb hW HB
          clear CQ
          go_wp2_with fail
          exact ⟨⟨k + 1, by omega, by go_num, HR.out.next BB.out, Below.andThen HB.out BB.out⟩, by simp [intOf]; omega⟩
        · have y1' : decide ((x' : Int) < (r : Int)) = false := by rw [decide_eq_false_iff_not]; omega
          have y2' : decide ((t.size : Int) < (x' : Int)) = false := by rw [decide_eq_false_iff_not]; omega
          have CS := Lib.hid (fun w => same_v (show strV (strR t r) = .tuple #[.string v, .int .i64 x', .int .i64 0] by rw [e']; rfl) (string_any t r w (by unfold maxLen; omega) (by omega) (by omega)))
          have CQ := Lib.hid (fun w => put_v (putSV_ok (v := v) v1) (putString_any v w (by unfold maxLen; omega)))
          clear e'
          go_wp2_with fail
          refine (CS.out _).mono ?_
          rintro e w6 ⟨rfl, hb⟩
          have HB := Lib.hid hb
          have hW : Below w5.heap.size w5 w6 := by (repeat' first | exact Below.refl _ _ | assumption | (refine Below.andThen ?_ HB.out) | (exact HB.out.size) | (refine below_drewN ?_ _) | (refine Below.drew ?_) | (refine Below.alloc ?_ ?_ _) | (refine Below.setCell ?_ ?_ _) | (simp; done) | (simp; omega) | omega)
          replace BB := Lib.hid (Below.andThen BB.out hW)
          replace HT := Lib.hid (HT.out.next hW)
          clear hb hW HB
          clear CS
          go_wp2_with fail
          refine (CQ.out _).mono ?_
          rintro e w7 ⟨rfl, hb⟩
          have HB := Lib.hid hb
          have hW : Below w6.heap.size w6 w7 := by (repeat' first | exact Below.refl _ _ | assumption | (refine Below.andThen ?_ HB.out) | (exact HB.out.size) | (refine below_drewN ?_ _) | (refine Below.drew ?_) | (refine Below.alloc ?_ ?_ _) | (refine Below.setCell ?_ ?_ _) | (simp; done) | (simp; omega) | omega)
          replace BB := Lib.hid (Below.andThen BB.out hW)
          replace HT := Lib.hid (HT.out.next hW)
          clear hb hW HB
          clear CQ
          go_wp2_with fail
          exact ⟨⟨k + 1, by omega, by go_num, HR.out.next BB.out, Below.andThen HB.out BB.out⟩, by simp [intOf]; omega⟩
    · have BB := Lib.hid hB
      clear hB hR HBw R0 HT0
      go_wp2_with fail
      go_ret
      exact ⟨rfl, BB.out⟩
end Go.Proofs.YtncmbgdpmfoohaaDoor
