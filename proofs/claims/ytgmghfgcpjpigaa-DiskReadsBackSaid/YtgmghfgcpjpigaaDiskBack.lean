/- For every input, DiskReadsBack returns true and leaves its arguments as they were. -/
import Derived.Test.YtgmghfgcpjpigaaDiskFrame
namespace Go.Proofs.Ytgmghfgcpjpigaa
open Go.RowKit Go.ChangeShapes Go.WideShapes Go.ChangeAt

set_option maxRecDepth 100000 in
set_option maxHeartbeats 4000000 in
theorem readsBack_any (z : Int) (o : Option Addr) (len cap : Nat) (L : Nat → Int × ByteArray × Bool) (w : World) (bz : -9223372036854775808 ≤ z ∧ z ≤ 9223372036854775807) (_ : len ≤ maxLen)
    (b1 : ∀ i, i < len → -9223372036854775808 ≤ (L i).1 ∧ (L i).1 ≤ 9223372036854775807 ∧ (L i).2.1.size ≤ maxLen)
    (b2 : ∀ i, i < len → ∃ a, o = some a ∧ ∀ w', Below w.heap.size w w' → w'.cell? (a.add (i * 3)) = some (.int .i64 (L i).1) ∧ w'.cell? ⟨(a.add (i * 3)).block, (a.add (i * 3)).off + 1, none⟩ = some (.string (L i).2.1) ∧ w'.cell? ⟨(a.add (i * 3)).block, (a.add (i * 3)).off + 2, none⟩ = some (.bool (L i).2.2)) :
    Calls Try.prog 6 #[.int .i64 z, .slice o len cap] w fun r w' => r = .returned (.bool true) ∧ Below w.heap.size w w' := by
  have HB1 := Lib.hid b1
  have HB2 := Lib.hid b2
  have pb := pick_bd z 300 (by omega)
  obtain ⟨n, en⟩ : ∃ n : Nat, (n : Int) = 1 + pickZ z 300 := ⟨(1 + pickZ z 300).toNat, by omega⟩
  have CP := Lib.hid (fun w => pick_any z 300 w (by omega) bz.1 bz.2)
  have n1 : 1 ≤ n := by omega
  have n2 : n ≤ 300 := by omega
  have EN := Lib.hid en
  obtain ⟨pb1, pb2⟩ := pb
  clear b1 b2 en
  go_enter Try.func6, Try.ntmps6
  go_wp2_with fail
  refine (sane_any _).mono ?_
  rintro e w1 ⟨rfl, hb⟩
  have HB := Lib.hid hb
  clear hb
  go_upto_region 2 with (fail)
  go_cut [0] (fun v wx => v = .int .i64 n ∧ wx = w1)
  case first =>
    go_wp2_with fail
    refine (CP.out _).mono ?_
    rintro e w2 ⟨rfl, rfl⟩
    go_wp2_with fail
    go_meet
    exact ⟨congrArg (Value.int .i64) EN.out.symm, rfl⟩
  obtain ⟨rfl, rfl⟩ := hcut
  rename World => w1
  clear pb1 pb2
  go_wp2_with fail
  refine (new_any n w1 n1 (by omega)).mono ?_
  rintro e w2 ⟨D, F, rfl, hb, hD, hF⟩
  have O := Lib.hid (On.new HB.out hb hD hF)
  clear hb hD hF HB
  obtain ⟨i0, hi, hz0, hz1, hz2⟩ := info_parts infoByte
  have hmk := run_make_row (P := Try.prog) w2 40 5 i0 _ 1 Try.underlying40 hi hz0 hz1 hz2 rfl n (by omega) (by omega)
  go_wp2_with fail
  clear hmk
  have R0 := Row.newA w2 5 n (.int .u8 0)
  have e0 : (DS.fresh n).vis.map byteV = List.replicate n (.int .u8 0) := by rw [DS.fresh, List.map_replicate]; rfl
  rw [← e0] at R0
  have K0 := Lib.hid (And.intro (O.out.next (show Below w2.heap.size w2 (w2.alloc (.cells (Array.replicate n (.int .u8 0)) 5)) from (Below.refl _ _).alloc (Nat.le_refl _) _)) (And.intro R0 (show ¬ F w2.heap.size from fun h => absurd (O.out.disk.lt _ h) (Nat.lt_irrefl _))))
  obtain ⟨b, eb⟩ : ∃ b, b = w2.heap.size := ⟨_, rfl⟩
  have HBW := Lib.hid (show w.heap.size ≤ b by rw [eb]; exact O.out.below.size)
  rw [← eb] at K0 ⊢
  clear R0 e0 O eb
  go_loopw [9] (fun i wr => ∃ (k : Nat) (F : Nat → Prop) (s : DS), k ≤ 60 ∧ i = .int .i64 k ∧ On w wr F D n s ∧ Row wr b 5 (s.vis.map byteV) ∧ ¬ F b ∧ s.off = false ∧ s.after = 0 ∧ s.pend.length ≤ k) (fun i _ => 60 - (intOf i).toNat)
  case atStart => exact ⟨0, F, DS.fresh n, by omega, rfl, K0.out.1, K0.out.2.1, K0.out.2.2, rfl, rfl, Nat.le_refl _⟩
  case round =>
    clear K0
    obtain ⟨k, F, s, hk, rfl, hO, hR, hFb, ho, ha, hp⟩ := hrel
    have O := Lib.hid hO
    have R := Lib.hid hR
    have P := Lib.hid (And.intro hFb (And.intro ho (And.intro ha hp)))
    clear hO hR hFb ho ha hp
    by_cases hl : k < len
    · by_cases h60 : k < 60
      · obtain ⟨ad, rfl, hc⟩ := HB2.out k hl
        obtain ⟨x0, x1, x2⟩ := HB1.out k hl
        obtain ⟨c0, c1, c2⟩ := hc wr O.out.below
        obtain ⟨⟨z0, s0, y0⟩, eL⟩ : ∃ q, q = L k := ⟨_, rfl⟩
        rw [← eL] at x0 x1 x2 c0 c1 c2
        clear hc eL
        dsimp only at x0 x1 x2 c0 c1 c2
        go_wp2_with fail
        refine (fits_any z0 s0 y0 n wr ⟨x0, x1⟩ x2 (by omega)).mono ?_
        rintro e w3 ⟨rfl, hb⟩
        have O3 := Lib.hid (O.out.next hb)
        have R3 := Lib.hid (R.out.next hb)
        have HF := Lib.hid (fit_ok z0 s0 n)
        have hq := fitO_le z0 n
        generalize fitO z0 n = q at *
        generalize fitS z0 s0 n = t at *
        have tq : t.size ≤ 300 := by have := HF.out; omega
        clear hb c0 c1 c2 x0 x1 x2 O R
        have RW := Lib.hid (Row.new w3 53 [.int .i64 q, .string t, .bool y0])
        have O4 := Lib.hid (O3.out.next (show Below w3.heap.size w3 (w3.alloc (.cells #[.int .i64 q, .string t, .bool y0] 53)) from (Below.refl _ _).alloc (Nat.le_refl _) _))
        have R4 := Lib.hid (R3.out.alloc (.cells #[.int .i64 q, .string t, .bool y0] 53))
        have lb := R3.out.lt
        have HL := Lib.hid (fun h => Nat.lt_irrefl _ (O3.out.disk.lt w3.heap.size h))
        go_wp2_with fail
        refine (put_any b n q _ t _ R4.out O4.out.disk.good.1.vis (by omega) HF.out).mono ?_
        rintro e w5 ⟨rfl, hO, hR⟩
        obtain ⟨lw, el⟩ : ∃ lw, lw = w3.heap.size := ⟨_, rfl⟩
        rw [← el] at RW HL lb ⊢
        have O5 := Lib.hid (O4.out.only hO (fun j hj => by subst hj; exact P.out.1) (fun j hj => by subst hj; exact HBW.out))
        have R5 := Lib.hid hR
        have RW5 := Lib.hid (hO.row RW.out (by omega))
        clear hO hR O4 R4 RW O3 R3 el
        have c0 := RW5.out.cell 0
        have c1 := RW5.out.cell 1
        have c2 := RW5.out.cell 2
        simp only [List.getElem?_cons_succ, List.getElem?_cons_zero] at c0 c1 c2
        have HW := Lib.hid (write_plain O5.out.disk.good.1 P.out.2.1 P.out.2.2.1 HF.out)
        go_wp2_with fail
        refine (write_any D n _ _ q t _ O5.out.disk (by omega) (by unfold maxLen; omega) (by have := P.out.2.2.2; omega)).mono ?_
        rintro e w6 ⟨rfl, hS⟩
        rw [HW.out.2] at hS
        obtain ⟨F6, O6, hO, hF⟩ := On.step O5.out hS
        have O6 := Lib.hid O6
        have R6 := Lib.hid (hO.row R5.out P.out.1)
        have RW6 := Lib.hid (hO.row RW5.out HL.out)
        have P6 := Lib.hid (And.intro (still hF R5.out.lt P.out.1) (And.intro P.out.2.1 (And.intro P.out.2.2.1 (show (s.pend ++ [(q, t)]).length ≤ k + 1 by have := P.out.2.2.2; simp; omega))))
        rw [HW.out.1]
        clear hS hO hF O5 R5 RW5 P HW c0 c1 c2
        have c2 := RW6.out.cell 2
        simp only [List.getElem?_cons_succ, List.getElem?_cons_zero] at c2
        cases y0
        · have tx := Lib.hid (read_plain O6.out.disk.good.1 P6.out.2.1)
          go_wp2_with fail
          refine (read_any D n _ _ 0 n _ O6.out.disk (by omega) (by omega)).mono ?_
          rintro e w8 ⟨rfl, rfl⟩
          rw [tx.out.1, tx.out.2]
          have hx := Row.textAll (P := Try.prog) R6.out O6.out.disk.good.1.vis 40 9 5 n rfl rfl rfl
          go_wp2_with fail
          go_roundw
          case rel => exact ⟨k + 1, _, _, by omega, by go_num, O6.out, R6.out, P6.out.1, P6.out.2.1, P6.out.2.2.1, P6.out.2.2.2⟩
          case measure => simp [intOf]; omega
        · have HS := Lib.hid (sync_plain (s := { s with pend := s.pend ++ [(q, t)], vis := over s.vis q t.data.toList }) P6.out.2.1)
          go_wp2_with fail
          refine (sync_any D n _ _ _ O6.out.disk).mono ?_
          rintro e w7 ⟨rfl, hS⟩
          rw [HS.out.2] at hS
          obtain ⟨F7, O7, hO, hF⟩ := On.step O6.out hS
          have O7 := Lib.hid O7
          have R7 := Lib.hid (hO.row R6.out P6.out.1)
          have P7 := Lib.hid (And.intro (still hF R6.out.lt P6.out.1) (And.intro P6.out.2.1 (And.intro P6.out.2.2.1 (show ([] : List (Nat × ByteArray)).length ≤ k + 1 by simp))))
          rw [HS.out.1]
          clear hS hO hF O6 R6 RW6 P6 HS c2
          have tx := Lib.hid (read_plain O7.out.disk.good.1 P7.out.2.1)
          go_wp2_with fail
          refine (read_any D n _ _ 0 n _ O7.out.disk (by omega) (by omega)).mono ?_
          rintro e w8 ⟨rfl, rfl⟩
          rw [tx.out.1, tx.out.2]
          have hx := Row.textAll (P := Try.prog) R7.out O7.out.disk.good.1.vis 40 9 5 n rfl rfl rfl
          go_wp2_with fail
          go_roundw
          case rel => exact ⟨k + 1, _, _, by omega, by go_num, O7.out, R7.out, P7.out.1, P7.out.2.1, P7.out.2.2.1, P7.out.2.2.2⟩
          case measure => simp [intOf]; omega
      · have h60' : ¬ (k : Int) < 60 := by omega
        go_wp2_with fail
        go_ret
        exact ⟨rfl, O.out.below⟩
    · go_wp2_with fail
      go_ret
      exact ⟨rfl, O.out.below⟩
namespace diskReadsBack
set_option maxRecDepth 100000 in
theorem contract (H : Type) (enc : TypeId × Value → H) (W : World) (base : Nat) (args : Array Value) (ds gs : List (DataW H)) (before : List MemPlace)
    (hval : ∀ (j : Nat) t v, Try.f6.params[j]? = some t → args[j]? = some v → Value.okWide Try.prog W .any base t v)
    (hW : DataW.Whole enc Try.prog Try.f6.params.toList Rows.diskReadsBackSpec.vars false W args.toList ds gs before) (_hL : laidMetH Try.prog Rows.diskReadsBackRow.laid W) :
    Calls Try.prog 6 args W fun e W' => ∃ v, e = .returned v ∧ Rows.diskReadsBackSpec.post enc Try.prog Try.f6 false true false false W args v W' := by
  have hW' := hW
  obtain ⟨p, q, hA0, hV, rfl, hfz, hnd⟩ := hW
  have hA : DataW.TrodAll enc Try.prog W 0 (fun _ => true) true Try.f6.params.toList args.toList ds p := hA0
  rw [Try.params6] at hA hval
  obtain ⟨v0, vs0, d0, ds0, p0, q0, hargs, rfl, rfl, h0, r0⟩ := trodAll_cons hA
  obtain ⟨v1, vs1, d1, ds1, p1, q1, rfl, rfl, rfl, h1, r1⟩ := trodAll_cons r0
  obtain ⟨rfl, rfl, rfl⟩ := trodAll_nil r1
  obtain rfl : args = #[v0, v1] := by cases args; simp_all
  obtain ⟨a0, rfl, rfl, rfl, k0⟩ := open_int Try.underlying3 (hval 0 _ _ rfl rfl) h0
  obtain ⟨oa1, la1, ca1, a1, rfl, ma1, k1, ga1⟩ := open_isbS Try.underlying51 (by kernel_rfl) (by kernel_rfl) (hval 1 _ _ rfl rfl) h1
  refine (readsBack_any a0 oa1 la1 ca1 a1 W (bd_i64 k0) ma1 k1 ga1).mono fun e W' ⟨he, hb⟩ => ?_
  subst he
  obtain ⟨rfl, _⟩ := trodVars_none hV
  exact ⟨_, rfl, law_post laidOut (by kernel_rfl) rfl (by kernel_rfl) Try.underlying4 hW' rfl hb⟩

def args0 : Array Value := #[.int .i64 0, .slice none 0 0]
theorem laid_met (os : Os) : laidMet Try.prog Rows.diskReadsBackRow.laid ((laidWorld os).forCall (fun _ _ => 0) ⟨#[], args0, []⟩).memory :=
  laidMet_of_run' 8 (by kernel_rfl) (by kernel_rfl)
theorem reads (os : Os) {H : Type} (enc : TypeId × Value → H) : ∃ places, DataW.whole enc Try.prog ((laidWorld os).forCall (fun _ _ => 0) ⟨#[], args0, []⟩).memory Try.f6.params.toList Rows.diskReadsBackSpec.vars false args0.toList 8 = some ([.lit (.int .i64 0), .nil], [], places) :=
  ⟨[], by kernel_rfl⟩

set_option maxRecDepth 100000 in
theorem lifted (os : Os) (started : os.Started) (H : Type) (enc : TypeId × Value → H) (F : Stop.Interp) :
    ReturnsInHanded {} Try.checked os 6 .any ((OpenSpec.ofChange Rows.diskReadsBackSpec).preRow enc Try.prog Try.f6 Rows.diskReadsBackRow.domain false Rows.diskReadsBackRow.laid) (((OpenSpec.ofChange Rows.diskReadsBackSpec).at F).post enc Try.prog Try.f6 false true false false) := by
  obtain ⟨places, hx⟩ := reads os enc
  refine returnsInHanded_of_row (C := Try.checked) (s := OpenSpec.ofChange Rows.diskReadsBackSpec) own started (by kernel_rfl) Try.func6
    (witness_row_at (enc := enc) (C := Try.checked) false (laidWorld os) args0 rfl (by kernel_rfl) (by kernel_rfl) (by kernel_rfl)
      (OpenSpec.preRow_of_cond 8 hx (by kernel_rfl) (fun k hk => by cases hk) (by kernel_rfl) (laid_met os))) ?_
  intro W base args ds gs before hval hW _ _ _ hL _ _
  exact contract H enc W base args ds gs before hval hW hL

theorem said : Rows.DiskReadsBackSaid :=
  OpenClaim.holds_of_cond 6 Try.f6 rfl rfl rfl rfl rfl rfl rfl ⟨rfl, rfl, rfl, rfl, rfl⟩ rfl rfl rfl rfl rfl (by kernel_rfl) Try.func6 (by kernel_rfl)
    (of_decide_eq_true (by kernel_rfl)) (by unfold Func.isWrapper; first | (rw [if_pos (by decide +kernel)]; kernel_rfl) | (rw [if_neg (by decide +kernel)]; exact ⟨rfl, rfl⟩))
    (fun os started H enc _ F => by rw [OpenClaim.pre_eq_preRow]; exact lifted os started H enc F)

end diskReadsBack
end Go.Proofs.Ytgmghfgcpjpigaa
