/- For every input, IntegerMatchesReference returns true; the listed tables hold what the program's text lays. -/
import Derived.Test.YtjhnfejlkljkjaaGreatDoorIntRNQ
import Derived.Test.YtjhnfejlkljkjaaGreatDoorIntFrame
import Derived.Test.YtjhnfejlkljkjaaGreatDoorIntEx
namespace Go.Proofs.YtjhnfejlkljkjaaGreatDoor
open Go.RowKit Go.ChangeShapes Go.WideShapes Go.ChangeAt

/-- a text's first n bytes -/
def cutT (s : ByteArray) (n : Nat) : ByteArray := s.extract 0 n
theorem cutT_size (s : ByteArray) (n : Nat) : (cutT s n).size = min s.size n := by unfold cutT; rw [ByteArray.size_extract]; omega
theorem cutT_eq (s : ByteArray) (n : Nat) : s.extract 0 (min (s.size : Int) n).toNat = cutT s n := by
  unfold cutT
  apply ByteArray.ext
  simp only [ByteArray.data_extract]
  apply Array.toList_inj.1
  simp only [Array.toList_extract, List.extract_eq_take_drop, List.drop_zero, Nat.sub_zero]
  rw [List.take_eq_take_iff]
  simp
  omega
theorem txtM_size {z : Int} (h : In.Fit z) : (In.txt z).size ≤ maxLen := by
  have hl : (In.txt z).size = (In.txtL z).length := by rw [← In.txt_list]; simp
  have hd : (Lib.decDigits z.natAbs).length ≤ 200 := (In.dec_len_le (by decide)).2 h
  have : (In.txtL z).length ≤ 201 := by
    unfold In.txtL Lib.itoa
    split
    · rw [List.length_cons]; omega
    · rw [show z.toNat = z.natAbs by omega]; omega
  unfold maxLen
  omega
theorem six {A B C D E F : ByteArray} (k : Nat) (hk : k < 3) (ha : A.size ≤ maxLen) (hb : B.size ≤ maxLen) (hc : C.size ≤ maxLen) (hd : D.size ≤ maxLen) (he : E.size ≤ maxLen) (hf : F.size ≤ maxLen) :
    ∃ X Y : ByteArray, [Value.string A, .string B, .string C, .string D, .string E, .string F][2 * k]? = some (.string X) ∧ [Value.string A, .string B, .string C, .string D, .string E, .string F][2 * k + 1]? = some (.string Y) ∧ X.size ≤ maxLen ∧ Y.size ≤ maxLen := by
  match k, hk with
  | 0, _ => exact ⟨A, B, rfl, rfl, ha, hb⟩
  | 1, _ => exact ⟨C, D, rfl, rfl, hc, hd⟩
  | 2, _ => exact ⟨E, F, rfl, rfl, he, hf⟩
set_option maxRecDepth 100000 in
set_option maxHeartbeats 8000000 in
theorem integerMatchesReference_law (a b : ByteArray) (n : Int) (w : World) (TT : TabI w ∧ TabE w) (ha : a.size ≤ maxLen) (hb : b.size ≤ maxLen) (hn : -9223372036854775808 ≤ n ∧ n ≤ 9223372036854775807) :
    Calls Tryz.prog 3 #[.string a, .string b, .int .i64 n] w fun r w' => r = .returned (.bool true) ∧ Below w.heap.size w w' := by
  have HT := Lib.hid TT.1
  have HE := Lib.hid TT.2
  have BB := Lib.hid (Below.refl w.heap.size w)
  have HS := Lib.hid sane_any
  have hca : a.extract 0 (min (a.size : Int) 210).toNat = cutT a 210 := cutT_eq a 210
  have hcb : b.extract 0 (min (b.size : Int) 210).toNat = cutT b 210 := cutT_eq b 210
  obtain ⟨p, hp⟩ : ∃ p, p = cutT a 210 := ⟨_, rfl⟩
  obtain ⟨q, hq⟩ : ∃ q, q = cutT b 210 := ⟨_, rfl⟩
  rw [← hp] at hca
  rw [← hq] at hcb
  have sp : p.size ≤ maxLen := by rw [hp, cutT_size]; omega
  have sq : q.size ≤ maxLen := by rw [hq, cutT_size]; omega
  have M1 := Lib.hid (fun W => Made_any p 70 W (by decide) sp)
  have M2 := Lib.hid (fun W => Made_any q 30 W (by decide) sq)
  have M3 := Lib.hid (fun W => Made_any p 12 W (by decide) sp)
  have F1 := Lib.hid (fun W => rFromInt_any n W hn)
  have F2 := Lib.hid (fun W h => FromInt_any n W hn h)
  have s1 := txtM_size (madeZ_fit (s := p) (m := 70) (by decide))
  have s2 := txtM_size (madeZ_fit (s := q) (m := 30) (by decide))
  have s3 := txtM_size (madeZ_fit (s := p) (m := 12) (by decide))
  have s4 : (In.txt n).size ≤ maxLen := txtM_size (show n.natAbs < 10 ^ 200 by
    have h1 : n.natAbs < 10 ^ 19 := by omega
    exact Nat.lt_of_lt_of_le h1 (Nat.pow_le_pow_right (by decide) (by decide)))
  have SZ := Lib.hid (And.intro sp (And.intro sq (And.intro s1 (And.intro s2 (And.intro s3 s4)))))
  generalize In.txt (madeZ p 70) = t1 at *
  generalize In.txt (madeZ q 30) = t2 at *
  generalize In.txt (madeZ p 12) = t3 at *
  generalize In.txt n = t4 at *
  have m1 : min (a.size : Int) 210 ≤ a.size := Int.min_le_left _ _
  have m2 : 0 ≤ min (a.size : Int) 210 := by omega
  have m3 : min (b.size : Int) 210 ≤ b.size := Int.min_le_left _ _
  have m4 : 0 ≤ min (b.size : Int) 210 := by omega
  unfold maxLen at ha hb
  clear hp hq sp sq s1 s2 s3 s4 TT hn
  go_enter Tryz.func3, Tryz.ntmps3
  go_wp2_with fail
  with_reducible refine Calls.mono (HS.out _ HT.out) ?_
  rintro e w1 ⟨rfl, hb⟩
  replace HT := Lib.hid (HT.out.next hb)
  replace HE := Lib.hid (HE.out.next hb)
  replace BB := Lib.hid (Below.andThen BB.out hb)
  clear hb
  go_wp2_with fail
  with_reducible refine Calls.mono (M1.out _) ?_
  rintro e w2 ⟨rfl, hb⟩
  replace HT := Lib.hid (HT.out.next hb)
  replace HE := Lib.hid (HE.out.next hb)
  replace BB := Lib.hid (Below.andThen BB.out hb)
  clear hb
  go_wp2_with fail
  with_reducible refine Calls.mono (M2.out _) ?_
  rintro e w3 ⟨rfl, hb⟩
  replace HT := Lib.hid (HT.out.next hb)
  replace HE := Lib.hid (HE.out.next hb)
  replace BB := Lib.hid (Below.andThen BB.out hb)
  clear hb
  go_wp2_with fail
  with_reducible refine Calls.mono (M3.out _) ?_
  rintro e w4 ⟨rfl, hb⟩
  replace HT := Lib.hid (HT.out.next hb)
  replace HE := Lib.hid (HE.out.next hb)
  replace BB := Lib.hid (Below.andThen BB.out hb)
  clear hb
  go_wp2_with fail
  with_reducible refine Calls.mono (F1.out _) ?_
  rintro e w5 ⟨rfl, hb⟩
  replace HT := Lib.hid (HT.out.next hb)
  replace HE := Lib.hid (HE.out.next hb)
  replace BB := Lib.hid (Below.andThen BB.out hb)
  clear hb
  go_wp2_with fail
  have hrow : Row (w5.alloc (.cells #[.string p, .string q, .string t1, .string t2, .string t3, .string t4] 23)) w5.heap.size 23 [.string p, .string q, .string t1, .string t2, .string t3, .string t4] := Row.new _ _ _
  have hb6 : Below w.heap.size w (w5.alloc (.cells #[.string p, .string q, .string t1, .string t2, .string t3, .string t4] 23)) := BB.out.alloc BB.out.size _
  have hb5 : Below w5.heap.size w5 (w5.alloc (.cells #[.string p, .string q, .string t1, .string t2, .string t3, .string t4] 23)) := (Below.refl _ _).alloc (Nat.le_refl _) _
  obtain ⟨bl, hbl⟩ : ∃ x, x = w5.heap.size := ⟨_, rfl⟩
  obtain ⟨wl, hwl⟩ : ∃ x, x = w5.alloc (.cells #[.string p, .string q, .string t1, .string t2, .string t3, .string t4] 23) := ⟨_, rfl⟩
  rw [← hwl] at hrow hb6 hb5 ⊢
  have HR0 := Lib.hid (And.intro hrow (And.intro hb6 (And.intro (HT.out.next hb5) (HE.out.next hb5))))
  rw [← hbl] at HR0 ⊢
  clear hrow hb6 hb5 hwl hbl HT HE BB M1 M2 M3 HS m1 m2 m3 m4 ha hb
  go_loopw [50] (fun iv wr => ∃ k : Nat, k ≤ 3 ∧ iv = .int .i64 k ∧ Row wr bl 23 [.string p, .string q, .string t1, .string t2, .string t3, .string t4] ∧ Below w.heap.size w wr ∧ TabI wr ∧ TabE wr) (fun iv _ => 3 - (intOf iv).toNat)
  case atStart => exact ⟨0, by omega, by first | rfl | go_num, HR0.out⟩
  case round =>
    clear HR0
    obtain ⟨k, hk, rfl, hR, hB, hT, hE⟩ := hrel
    have HT := Lib.hid hT
    have HE := Lib.hid hE
    have BB := Lib.hid hB
    have HR := Lib.hid hR
    by_cases hlt : k < 3
    · obtain ⟨X, Y, hX, hY, sX, sY⟩ := six k hlt SZ.out.1 SZ.out.2.1 SZ.out.2.2.1 SZ.out.2.2.2.1 SZ.out.2.2.2.2.1 SZ.out.2.2.2.2.2
      have c0 := (hR.cell (2 * k)).trans hX
      have c1 := (hR.cell (2 * k + 1)).trans hY
      rw [Nat.mul_comm] at c0 c1
      have lb := hR.lt
      clear hT hE hB hR hX hY
      go_upto_region 7 with (fail)
      refine wp_named fun wx hw => ?_
      obtain ⟨bx, hbx⟩ : ∃ x, x = wr.heap.size := ⟨_, rfl⟩
      have hbw : Below wr.heap.size wr wx := by rw [hw]; exact (Below.refl _ _).alloc (Nat.le_refl _) _
      have HX := Lib.hid (show Row wx bx 23 [.string X, .string Y] from by rw [hw, hbx]; exact Row.new _ _ _)
      rw [← hbx]
      replace HT := Lib.hid (HT.out.next hbw)
      replace HE := Lib.hid (HE.out.next hbw)
      replace HR := Lib.hid (HR.out.next hbw)
      replace BB := Lib.hid (Below.andThen BB.out hbw)
      clear hw hbx hbw c0 c1 lb
      have k0 := (Row.cell HX.out 0).trans (show _ = some (.string X) from rfl)
      have k1 := (Row.cell HX.out 1).trans (show _ = some (.string Y) from rfl)
      have lbx := HX.out.lt
      have A1 := Lib.hid (fun W T => Add_any X Y W T)
      have A2 := Lib.hid (fun W => rAdd_any X Y W sX sY)
      have S1 := Lib.hid (fun W T => Sub_any X Y W T)
      have S2 := Lib.hid (fun W => rSub_any X Y W sX sY)
      have P1 := Lib.hid (fun W T => Mul_any X Y W T)
      have P2 := Lib.hid (fun W => rMul_any X Y W sX sY)
      have D1 := Lib.hid (fun W T => Div_any X Y W T)
      have D2 := Lib.hid (fun W => rDiv_any X Y W sX sY)
      have G1 := Lib.hid (fun W T => Gcd_any X Y W T)
      have G2 := Lib.hid (fun W => rGcd_any X Y W sX sY)
      have R1 := Lib.hid (fun W T => Root_any X W T)
      have R2 := Lib.hid (fun W => rRoot_any X W sX)
      have I1 := Lib.hid (fun W T => ToInt_any X W T)
      have I2 := Lib.hid (fun W => rToInt_any X W sX)
      have V1 := Lib.hid (fun W => valid_any X W)
      have V2 := Lib.hid (fun W => rvalid_any X W sX)
      have C1 := Lib.hid (fun W => Compare_any X Y W)
      have C2 := Lib.hid (fun W => rCompare_any X Y W sX sY)
      generalize In.opS (fun x y => x + y) X Y = r1 at *
      generalize In.opS (fun x y => x - y) X Y = r2 at *
      generalize In.opS (fun x y => x * y) X Y = r3 at *
      generalize In.divS X Y = r4 at *
      generalize In.opS In.gcdZ X Y = r5 at *
      generalize In.rootS X = r6 at *
      generalize In.toS X = r7 at *
      generalize In.validL X.data.toList = r8 at *
      generalize In.cmpS X Y = r9 at *
      obtain ⟨r1a, r1b⟩ := r1
      obtain ⟨r2a, r2b⟩ := r2
      obtain ⟨r3a, r3b⟩ := r3
      obtain ⟨r4a, r4b, r4c⟩ := r4
      obtain ⟨r5a, r5b⟩ := r5
      obtain ⟨r6a, r6b⟩ := r6
      obtain ⟨r7a, r7b⟩ := r7
      clear sX sY
      go_wp2_with fail
      with_reducible refine Calls.mono (A1.out _ HT.out) ?_
      rintro e v0 ⟨rfl, hb⟩
      replace HT := Lib.hid (HT.out.next hb)
      replace HE := Lib.hid (HE.out.next hb)
      replace HR := Lib.hid (HR.out.next hb)
      replace HX := Lib.hid (HX.out.next hb)
      replace BB := Lib.hid (Below.andThen BB.out hb)
      try clear k0 k1 lbx; have k0 := (Row.cell HX.out 0).trans (show _ = some (.string X) from rfl); have k1 := (Row.cell HX.out 1).trans (show _ = some (.string Y) from rfl); have lbx := HX.out.lt
      clear hb
      go_wp2_with fail
      with_reducible refine Calls.mono (A2.out _) ?_
      rintro e v1 ⟨rfl, hb⟩
      replace HT := Lib.hid (HT.out.next hb)
      replace HE := Lib.hid (HE.out.next hb)
      replace HR := Lib.hid (HR.out.next hb)
      replace HX := Lib.hid (HX.out.next hb)
      replace BB := Lib.hid (Below.andThen BB.out hb)
      try clear k0 k1 lbx; have k0 := (Row.cell HX.out 0).trans (show _ = some (.string X) from rfl); have k1 := (Row.cell HX.out 1).trans (show _ = some (.string Y) from rfl); have lbx := HX.out.lt
      clear hb
      go_wp2_with fail
      with_reducible refine Calls.mono (S1.out _ HT.out) ?_
      rintro e v2 ⟨rfl, hb⟩
      replace HT := Lib.hid (HT.out.next hb)
      replace HE := Lib.hid (HE.out.next hb)
      replace HR := Lib.hid (HR.out.next hb)
      replace HX := Lib.hid (HX.out.next hb)
      replace BB := Lib.hid (Below.andThen BB.out hb)
      try clear k0 k1 lbx; have k0 := (Row.cell HX.out 0).trans (show _ = some (.string X) from rfl); have k1 := (Row.cell HX.out 1).trans (show _ = some (.string Y) from rfl); have lbx := HX.out.lt
      clear hb
      go_wp2_with fail
      with_reducible refine Calls.mono (S2.out _) ?_
      rintro e v3 ⟨rfl, hb⟩
      replace HT := Lib.hid (HT.out.next hb)
      replace HE := Lib.hid (HE.out.next hb)
      replace HR := Lib.hid (HR.out.next hb)
      replace HX := Lib.hid (HX.out.next hb)
      replace BB := Lib.hid (Below.andThen BB.out hb)
      try clear k0 k1 lbx; have k0 := (Row.cell HX.out 0).trans (show _ = some (.string X) from rfl); have k1 := (Row.cell HX.out 1).trans (show _ = some (.string Y) from rfl); have lbx := HX.out.lt
      clear hb
      go_wp2_with fail
      with_reducible refine Calls.mono (P1.out _ HT.out) ?_
      rintro e v4 ⟨rfl, hb⟩
      replace HT := Lib.hid (HT.out.next hb)
      replace HE := Lib.hid (HE.out.next hb)
      replace HR := Lib.hid (HR.out.next hb)
      replace HX := Lib.hid (HX.out.next hb)
      replace BB := Lib.hid (Below.andThen BB.out hb)
      try clear k0 k1 lbx; have k0 := (Row.cell HX.out 0).trans (show _ = some (.string X) from rfl); have k1 := (Row.cell HX.out 1).trans (show _ = some (.string Y) from rfl); have lbx := HX.out.lt
      clear hb
      go_wp2_with fail
      with_reducible refine Calls.mono (P2.out _) ?_
      rintro e v5 ⟨rfl, hb⟩
      replace HT := Lib.hid (HT.out.next hb)
      replace HE := Lib.hid (HE.out.next hb)
      replace HR := Lib.hid (HR.out.next hb)
      replace HX := Lib.hid (HX.out.next hb)
      replace BB := Lib.hid (Below.andThen BB.out hb)
      try clear k0 k1 lbx; have k0 := (Row.cell HX.out 0).trans (show _ = some (.string X) from rfl); have k1 := (Row.cell HX.out 1).trans (show _ = some (.string Y) from rfl); have lbx := HX.out.lt
      clear hb
      go_wp2_with fail
      with_reducible refine Calls.mono (D1.out _ HT.out) ?_
      rintro e v6 ⟨rfl, hb⟩
      replace HT := Lib.hid (HT.out.next hb)
      replace HE := Lib.hid (HE.out.next hb)
      replace HR := Lib.hid (HR.out.next hb)
      replace HX := Lib.hid (HX.out.next hb)
      replace BB := Lib.hid (Below.andThen BB.out hb)
      try clear k0 k1 lbx; have k0 := (Row.cell HX.out 0).trans (show _ = some (.string X) from rfl); have k1 := (Row.cell HX.out 1).trans (show _ = some (.string Y) from rfl); have lbx := HX.out.lt
      clear hb
      go_wp2_with fail
      with_reducible refine Calls.mono (D2.out _) ?_
      rintro e v7 ⟨rfl, hb⟩
      replace HT := Lib.hid (HT.out.next hb)
      replace HE := Lib.hid (HE.out.next hb)
      replace HR := Lib.hid (HR.out.next hb)
      replace HX := Lib.hid (HX.out.next hb)
      replace BB := Lib.hid (Below.andThen BB.out hb)
      try clear k0 k1 lbx; have k0 := (Row.cell HX.out 0).trans (show _ = some (.string X) from rfl); have k1 := (Row.cell HX.out 1).trans (show _ = some (.string Y) from rfl); have lbx := HX.out.lt
      clear hb
      go_wp2_with fail
      with_reducible refine Calls.mono (G1.out _ HT.out) ?_
      rintro e v8 ⟨rfl, hb⟩
      replace HT := Lib.hid (HT.out.next hb)
      replace HE := Lib.hid (HE.out.next hb)
      replace HR := Lib.hid (HR.out.next hb)
      replace HX := Lib.hid (HX.out.next hb)
      replace BB := Lib.hid (Below.andThen BB.out hb)
      try clear k0 k1 lbx; have k0 := (Row.cell HX.out 0).trans (show _ = some (.string X) from rfl); have k1 := (Row.cell HX.out 1).trans (show _ = some (.string Y) from rfl); have lbx := HX.out.lt
      clear hb
      go_wp2_with fail
      with_reducible refine Calls.mono (G2.out _) ?_
      rintro e v9 ⟨rfl, hb⟩
      replace HT := Lib.hid (HT.out.next hb)
      replace HE := Lib.hid (HE.out.next hb)
      replace HR := Lib.hid (HR.out.next hb)
      replace HX := Lib.hid (HX.out.next hb)
      replace BB := Lib.hid (Below.andThen BB.out hb)
      try clear k0 k1 lbx; have k0 := (Row.cell HX.out 0).trans (show _ = some (.string X) from rfl); have k1 := (Row.cell HX.out 1).trans (show _ = some (.string Y) from rfl); have lbx := HX.out.lt
      clear hb
      go_wp2_with fail
      with_reducible refine Calls.mono (R1.out _ HT.out) ?_
      rintro e v10 ⟨rfl, hb⟩
      replace HT := Lib.hid (HT.out.next hb)
      replace HE := Lib.hid (HE.out.next hb)
      replace HR := Lib.hid (HR.out.next hb)
      replace HX := Lib.hid (HX.out.next hb)
      replace BB := Lib.hid (Below.andThen BB.out hb)
      try clear k0 k1 lbx; have k0 := (Row.cell HX.out 0).trans (show _ = some (.string X) from rfl); have k1 := (Row.cell HX.out 1).trans (show _ = some (.string Y) from rfl); have lbx := HX.out.lt
      clear hb
      go_wp2_with fail
      with_reducible refine Calls.mono (R2.out _) ?_
      rintro e v11 ⟨rfl, hb⟩
      replace HT := Lib.hid (HT.out.next hb)
      replace HE := Lib.hid (HE.out.next hb)
      replace HR := Lib.hid (HR.out.next hb)
      replace HX := Lib.hid (HX.out.next hb)
      replace BB := Lib.hid (Below.andThen BB.out hb)
      try clear k0 k1 lbx; have k0 := (Row.cell HX.out 0).trans (show _ = some (.string X) from rfl); have k1 := (Row.cell HX.out 1).trans (show _ = some (.string Y) from rfl); have lbx := HX.out.lt
      clear hb
      go_wp2_with fail
      with_reducible refine Calls.mono (I1.out _ HE.out) ?_
      rintro e v12 ⟨rfl, hb⟩
      replace HT := Lib.hid (HT.out.next hb)
      replace HE := Lib.hid (HE.out.next hb)
      replace HR := Lib.hid (HR.out.next hb)
      replace HX := Lib.hid (HX.out.next hb)
      replace BB := Lib.hid (Below.andThen BB.out hb)
      try clear k0 k1 lbx; have k0 := (Row.cell HX.out 0).trans (show _ = some (.string X) from rfl); have k1 := (Row.cell HX.out 1).trans (show _ = some (.string Y) from rfl); have lbx := HX.out.lt
      clear hb
      go_wp2_with fail
      with_reducible refine Calls.mono (I2.out _) ?_
      rintro e v13 ⟨rfl, hb⟩
      replace HT := Lib.hid (HT.out.next hb)
      replace HE := Lib.hid (HE.out.next hb)
      replace HR := Lib.hid (HR.out.next hb)
      replace HX := Lib.hid (HX.out.next hb)
      replace BB := Lib.hid (Below.andThen BB.out hb)
      clear k0 k1 lbx hb
      have k0 := (Row.cell HX.out 0).trans (show _ = some (.string X) from rfl)
      have k1 := (Row.cell HX.out 1).trans (show _ = some (.string Y) from rfl)
      have lbx := HX.out.lt
      go_upto_region 33 with (fail)
      have KV1 := Lib.hid (fun (k : Kin v13) => V1.out k.it)
      have KV2 := Lib.hid (fun (k : Kin v13) => V2.out k.it)
      have KC1 := Lib.hid (fun (k : Kin v13) => C1.out k.it)
      have KC2 := Lib.hid (fun (k : Kin v13) => C2.out k.it)
      refine wp_region_kin (by kernel_rfl) (by kernel_rfl) v13.heap.size 0 (by simp) (fun hk => ?_)
      repeat (go_big_quiet_step (first | (go_at_call 21; with_reducible exact Calls.kin_same (KV1.out _)) | (go_at_call 22; with_reducible exact Calls.kin_same (KV2.out _)) | (go_at_call 23; with_reducible exact Calls.kin (KC1.out _)) | (go_at_call 24; with_reducible exact Calls.kin (KC2.out _))))
      refine wpQuiet_nil ?_
      clear hk
      intro W2 hb
      have HF := Lib.hid (And.intro (HR.out.next hb) (And.intro (Below.andThen BB.out hb) (And.intro (HT.out.next hb) (HE.out.next hb))))
      clear hb k0 k1
      go_wp2_with fail
      go_roundw
      case rel => exact ⟨k + 1, by omega, by go_num, HF.out⟩
      case measure => simp [intOf]; omega
    · obtain rfl : k = 3 := by omega
      clear hT hE hB hR hlt hk
      go_wp2_with fail
      with_reducible refine Calls.mono (F2.out _ HT.out) ?_
      rintro e w6 ⟨rfl, hb⟩
      replace HT := Lib.hid (HT.out.next hb)
      replace BB := Lib.hid (Below.andThen BB.out hb)
      clear hb
      go_wp2_with fail
      with_reducible refine Calls.mono (F1.out _) ?_
      rintro e w7 ⟨rfl, hb⟩
      replace HT := Lib.hid (HT.out.next hb)
      replace BB := Lib.hid (Below.andThen BB.out hb)
      clear hb
      go_wp2_with fail
      go_ret
      exact ⟨rfl, BB.out⟩
end Go.Proofs.YtjhnfejlkljkjaaGreatDoor
