/- For every input, DiskCut returns true and leaves its arguments as they were. -/
import Derived.Test.YtgmghfgcpjpigaaDiskFrame
namespace Go.Proofs.Ytgmghfgcpjpigaa
open Go.RowKit Go.ChangeShapes Go.WideShapes Go.ChangeAt

/-- the disk behind 'Cut(c + 5)' and 'Cut(c)' -/
def cutD (n c : Nat) : DS := { DS.fresh n with off := decide (c = 0), after := c }
theorem cut_first (n c : Nat) : (DS.fresh n).cutE (c + 5) = 0 ∧ (DS.fresh n).cutS (c + 5) = { DS.fresh n with after := c + 5 } := by
  have h1 : ¬ ((c : Int) + 5 < 0) := by omega
  have h2 : ¬ ((c : Int) + 5 = 0) := by omega
  have h3 : ((c : Int) + 5).toNat = c + 5 := by omega
  constructor
  · simp [DS.cutE, DS.fresh, h1]
  · simp [DS.cutS, DS.fresh, h1, h2, h3]
theorem cut_second (n c : Nat) : DS.cutE { DS.fresh n with after := c + 5 } c = 0 ∧ DS.cutS { DS.fresh n with after := c + 5 } c = cutD n c := by
  have h1 : ¬ ((c : Int) < 0) := by omega
  constructor
  · simp [DS.cutE, DS.fresh, h1]
  · by_cases h : c = 0
    · subst h
      rfl
    · simp [DS.cutS, DS.fresh, cutD, h1, h]
theorem off_ops {s : DS} (ho : s.off = true) : s.readE 0 0 = 331 ∧ s.powE = 331 ∧ s.syncS = s ∧ s.cutE 3 = 331 ∧ s.cutS 3 = s := by simp [DS.readE, DS.powE, DS.syncS, DS.cutE, DS.cutS, ho]

set_option maxRecDepth 100000 in
set_option maxHeartbeats 4000000 in
theorem cutLaw_any (z cc : Int) (o : Option Addr) (len cap : Nat) (L : Nat → Int × ByteArray × Bool) (w : World) (bz : -9223372036854775808 ≤ z ∧ z ≤ 9223372036854775807) (bc : -9223372036854775808 ≤ cc ∧ cc ≤ 9223372036854775807) (_ : len ≤ maxLen)
    (b1 : ∀ i, i < len → -9223372036854775808 ≤ (L i).1 ∧ (L i).1 ≤ 9223372036854775807 ∧ (L i).2.1.size ≤ maxLen)
    (b2 : ∀ i, i < len → ∃ a, o = some a ∧ ∀ w', Below w.heap.size w w' → w'.cell? (a.add (i * 3)) = some (.int .i64 (L i).1) ∧ w'.cell? ⟨(a.add (i * 3)).block, (a.add (i * 3)).off + 1, none⟩ = some (.string (L i).2.1) ∧ w'.cell? ⟨(a.add (i * 3)).block, (a.add (i * 3)).off + 2, none⟩ = some (.bool (L i).2.2)) :
    Calls Try.prog 10 #[.int .i64 z, .int .i64 cc, .slice o len cap] w fun r w' => r = .returned (.bool true) ∧ Below w.heap.size w w' := by
  have pc := pick_bd cc 20 (by omega)
  obtain ⟨c, ec⟩ : ∃ c : Nat, (c : Int) = pickZ cc 20 := ⟨(pickZ cc 20).toNat, by omega⟩
  have CP2 := Lib.hid (fun w => pick_any cc 20 w (by omega) bc.1 bc.2)
  rw [← ec] at CP2
  have c1 : c ≤ 19 := by omega
  clear pc ec
  have HB1 := Lib.hid b1
  have HB2 := Lib.hid b2
  have pb := pick_bd z 100 (by omega)
  obtain ⟨n, en⟩ : ∃ n : Nat, (n : Int) = 1 + pickZ z 100 := ⟨(1 + pickZ z 100).toNat, by omega⟩
  have CP := Lib.hid (fun w => pick_any z 100 w (by omega) bz.1 bz.2)
  have n1 : 1 ≤ n := by omega
  have n2 : n ≤ 100 := by omega
  have EN := Lib.hid en
  obtain ⟨pb1, pb2⟩ := pb
  clear b1 b2 en
  go_enter Try.func10, Try.ntmps10
  go_wp2_with fail
  refine (sane_any _).mono ?_
  rintro e w1 ⟨rfl, hb⟩
  have HB := Lib.hid hb
  clear hb
  go_upto_region 2 with (fail)
  go_cut [0] (fun v wx => v = .int .i64 n ∧ wx = w1)
  case first =>
    go_wp2_with fail
    refine (CP.out _).mono ?_
    rintro e w2 ⟨rfl, rfl⟩
    go_wp2_with fail
    go_meet
    exact ⟨congrArg (Value.int .i64) EN.out.symm, rfl⟩
  obtain ⟨rfl, rfl⟩ := hcut
  rename World => w1
  clear pb1 pb2
  go_wp2_with fail
  refine (CP2.out _).mono ?_
  rintro e w2 ⟨rfl, rfl⟩
  go_wp2_with fail
  refine (new_any n w1 n1 (by omega)).mono ?_
  rintro e w2 ⟨D, F, rfl, hb, hD, hF⟩
  have O := Lib.hid (On.new HB.out hb hD hF)
  clear hb hD hF
  clear HB
  have F1 := Lib.hid (cut_first n c)
  have F2 := Lib.hid (cut_second n c)
  go_wp2_with fail
  refine (cutd_any D n _ _ (c + 5) _ O.out.disk (by omega)).mono ?_
  rintro e w3 ⟨rfl, hS⟩
  rw [F1.out.2] at hS
  obtain ⟨F', O', _, _⟩ := On.step O.out hS
  have O3 := Lib.hid O'
  clear hS O O'
  rw [F1.out.1]
  go_wp2_with fail
  refine (cutd_any D n _ _ c _ O3.out.disk (by omega)).mono ?_
  rintro e w4 ⟨rfl, hS⟩
  rw [F2.out.2] at hS
  obtain ⟨F4, O', _, _⟩ := On.step O3.out hS
  have O4 := Lib.hid O'
  clear hS O3 O'
  rw [F2.out.1]
  clear F1 F2
  obtain ⟨i0, hi, hz0, hz1, hz2⟩ := info_parts infoByte
  have hmk := run_make_row (P := Try.prog) w4 40 5 i0 _ 1 Try.underlying40 hi hz0 hz1 hz2 rfl n (by omega) (by omega)
  have R0 := Row.newA w4 5 n (.int .u8 0)
  have e0 : (cutD n c).vis.map byteV = List.replicate n (.int .u8 0) := by show (List.replicate n (0 : UInt8)).map byteV = _; rw [List.map_replicate]; rfl
  rw [← e0] at R0
  have K0 := Lib.hid (And.intro (O4.out.next (show Below w4.heap.size w4 (w4.alloc (.cells (Array.replicate n (.int .u8 0)) 5)) from (Below.refl _ _).alloc (Nat.le_refl _) _)) (And.intro R0 (show ¬ F4 w4.heap.size from fun h => absurd (O4.out.disk.lt _ h) (Nat.lt_irrefl _))))
  clear R0
  go_wp2_with fail
  clear hmk
  obtain ⟨b, eb⟩ : ∃ b, b = w4.heap.size := ⟨_, rfl⟩
  have HBW := Lib.hid (show w.heap.size ≤ b by rw [eb]; exact O4.out.below.size)
  rw [← eb] at K0 ⊢
  clear e0 O4 eb hi hz0 hz1 hz2 i0
  obtain ⟨i0, hi, hz0, hz1, hz2⟩ := info_parts infoInt
  go_loopw [11, 12] (fun v i wr => ∃ (k : Nat) (F : Nat → Prop) (s : DS), k ≤ 40 ∧ i = .int .i64 k ∧ On w wr F D n s ∧ Row wr b 5 (s.vis.map byteV) ∧ ¬ F b ∧ wr.ownsRow w.heap.size 3 1 v (min k c) (intC (upK (min k c))) ∧ s.off = decide (c ≤ k) ∧ s.after = c - k ∧ s.pend.length = min k c) (fun _ i _ => 40 - (intOf i).toNat)
  case atStart => exact ⟨0, F4, cutD n c, by omega, rfl, K0.out.1, K0.out.2.1, K0.out.2.2, by rw [Nat.zero_min]; exact World.ownsRow_nil _ _ _ _, by simp [cutD], rfl, by rw [Nat.zero_min]; rfl⟩
  case round =>
    clear K0
    obtain ⟨k, F, s, hk, rfl, hO, hR, hFb, hown, ho, ha, hp⟩ := hrel
    have O := Lib.hid hO
    have R := Lib.hid hR
    have W := Lib.hid hown
    have P := Lib.hid (And.intro hFb (And.intro ho (And.intro ha hp)))
    clear hO hR hFb ho ha hp hown
    by_cases hgo : k < len ∧ k < 40
    · obtain ⟨hl, h60⟩ := hgo
      obtain ⟨ad, rfl, hc⟩ := HB2.out k hl
      obtain ⟨x0, x1, x2⟩ := HB1.out k hl
      obtain ⟨c0, c1, c2⟩ := hc wr O.out.below
      obtain ⟨⟨z0, s0, y0⟩, eL⟩ : ∃ q, q = L k := ⟨_, rfl⟩
      rw [← eL] at x0 x1 x2 c0 c1 c2
      clear hc eL
      dsimp only at x0 x1 x2 c0 c1 c2
      go_wp2_with fail
      refine (fits_any z0 s0 y0 n wr ⟨x0, x1⟩ x2 (by omega)).mono ?_
      rintro e w3 ⟨rfl, hb⟩
      have O3 := Lib.hid (O.out.next hb)
      have HF := Lib.hid (fit_ok z0 s0 n)
      have hq := fitO_le z0 n
      generalize fitO z0 n = q at *
      generalize fitS z0 s0 n = t at *
      have tq : t.size ≤ 100 := by have := HF.out; omega
      have R3 := Lib.hid (R.out.next hb)
      have W3 := Lib.hid (own_next W.out hb)
      clear hb c0 c1 c2 x0 x1 x2 O R W
      have RW := Lib.hid (Row.new w3 53 [.int .i64 q, .string t, .bool y0])
      have O4 := Lib.hid (O3.out.next (show Below w3.heap.size w3 (w3.alloc (.cells #[.int .i64 q, .string t, .bool y0] 53)) from (Below.refl _ _).alloc (Nat.le_refl _) _))
      have HL := Lib.hid (fun h => Nat.lt_irrefl _ (O3.out.disk.lt w3.heap.size h))
      have R4 := Lib.hid (R3.out.alloc (.cells #[.int .i64 q, .string t, .bool y0] 53))
      have W4 := Lib.hid (W3.out.alloc (.cells #[.int .i64 q, .string t, .bool y0] 53))
      have lb := R3.out.lt
      go_wp2_with fail
      refine (write_any D n _ _ q t _ O4.out.disk (by omega) (by unfold maxLen; omega) (by have := P.out.2.2.2; omega)).mono ?_
      rintro e w6 ⟨rfl, hS⟩
      obtain ⟨F6, O6, hO, hF⟩ := On.step O4.out hS
      have O6 := Lib.hid O6
      have R6 := Lib.hid (hO.row R4.out P.out.1)
      have W6 := Lib.hid (own_only W4.out hO (own_not W4.out O4.out.disk))
      obtain ⟨lw, el⟩ : ∃ lw, lw = w3.heap.size := ⟨_, rfl⟩
      rw [← el] at RW HL lb ⊢
      have RW6 := Lib.hid (hO.row RW.out HL.out)
      have P6 := Lib.hid (still hF R4.out.lt P.out.1)
      clear hS hO hF R4 W4 R3 W3 O3 RW el HL
      by_cases hkc : k < c
      · have HW := Lib.hid (write_cut O4.out.disk.good.1 (by rw [P.out.2.1]; simp; omega) (by rw [P.out.2.2.1]; omega) HF.out)
        have c0 := RW6.out.cell 0
        have c1 := RW6.out.cell 1
        simp only [List.getElem?_cons_succ, List.getElem?_cons_zero] at c0 c1
        rw [HW.out.1]
        have hmin : min k c = k := by omega
        rw [hmin] at W6
        have HV := Lib.hid O4.out.disk.good.1.vis
        clear O4
        go_wp2_with fail
        refine (put_any b n q _ t _ R6.out HV.out (by omega) HF.out).mono ?_
        rintro e w7 ⟨rfl, hO, hR⟩
        have O7 := Lib.hid (O6.out.only hO (fun j hj => by subst hj; exact P6.out) (fun j hj => by subst hj; exact HBW.out))
        have R7 := Lib.hid hR
        have W7 := Lib.hid (own_only W6.out hO (fun j hj => by rintro rfl; exact own_ne W6.out R6.out (by decide) hj))
        clear hO hR O6 R6 W6 c0 c1
        have hsz := O7.out.below.size
        have hown := W7.out
        go_wp2_with (at_builtin; refine wpList_append_own_at _ rfl _ _ 37 rfl w.heap.size 3 i0 _ 1 8 Try.underlying37 hi hz0 hz1 hz2 rfl (by decide) _ k (intC (upK k)) rfl (hown.alloc _) ⟨w7.heap.size, 0, none⟩ 1 1 [.int .i64 k] rfl rfl (cell_one_new _ _ _) (by simp [Value.oneCell']) (by unfold maxLen; omega) (by omega) (by simp; omega) ?_; intro v' w2 hown' hgrow _ hat; have K := Lib.hid (And.intro hown' hgrow); clear hown' hgrow hat hown)
        go_roundw
        case rel =>
          obtain ⟨hown', hgrow⟩ := K.out
          have hG := grown_only _ hgrow
          obtain ⟨q1, q2, q3, q4, q5⟩ := HW.out
          have e1 : min (k + 1) c = k + 1 := by omega
          refine ⟨k + 1, F6, _, by omega, by go_num, O7.out.only hG (own_not W7.out O7.out.disk) (fun j hj => (W7.out.lt j hj).1), ?_, P6.out, ?_, ?_, ?_, ?_⟩
          · rw [q2]; exact hG.row R7.out (own_ne W7.out R7.out (by decide))
          · rw [e1, upK_more, intC_more]; exact hown'
          · rw [q4, P.out.2.2.1, decide_eq_decide]; omega
          · rw [q5, P.out.2.2.1]; omega
          · rw [q3, P.out.2.2.2]; omega
        case measure => simp [intOf]; omega
      · have HW := Lib.hid (write_off (s := s) (by rw [P.out.2.1]; simp; omega) q t)
        rw [HW.out.1]
        have O6' := O6.out
        rw [HW.out.2] at O6'
        have O7 := Lib.hid O6'
        clear O6 O6' O4
        go_wp2_with fail
        go_roundw
        case rel =>
          have e1 : min (k + 1) c = min k c := by omega
          refine ⟨k + 1, F6, s, by omega, by go_num, O7.out, R6.out, P6.out, ?_, ?_, ?_, ?_⟩
          · rw [e1]; exact W6.out
          · rw [P.out.2.1, decide_eq_decide]; omega
          · rw [P.out.2.2.1]; omega
          · rw [P.out.2.2.2]; omega
        case measure => simp [intOf]; omega
    · have hgo' : ¬ (k : Int) < len ∨ ((k : Int) < len ∧ ¬ (k : Int) < 40) := by omega
      obtain ⟨hlk, ko, kc, rfl, hk9⟩ := keep_own W.out
      have HK := Lib.hid hk9
      clear hgo hk9
      by_cases hkc : k < c
      · have hmin : min k c = k := by omega
        rw [hmin] at hlk W HK ⊢
        have ho : s.off = false := by rw [P.out.2.1]; simp; omega
        have HS := Lib.hid (sync_plain ho)
        clear ho
        rcases hgo' with hl | ⟨hl, h60⟩
        all_goals
          go_wp2_with fail
          refine (sync_any D n _ _ _ O.out.disk).mono ?_
          rintro e w7 ⟨rfl, hS⟩
          obtain ⟨F7, O7, _, _⟩ := On.step O.out hS
          have O7 := Lib.hid O7
          rw [HS.out.1]
          clear hS
          go_wp2
          go_ret
          exact ⟨rfl, O7.out.below⟩
      · have hmin : min k c = c := by omega
        rw [hmin] at hlk W HK P ⊢
        have ho : s.off = true := by rw [P.out.2.1]; simp; omega
        have HS := Lib.hid (off_ops ho)
        have HP := Lib.hid P.out.2.2.2
        have HNF := Lib.hid (own_not W.out O.out.disk)
        have HFb := Lib.hid P.out.1
        have HC := Lib.hid (show (s.crashS (upK c) (-1)).vis = s.vis from crashL_all O.out.disk.good.1 (upK c) (-1) (by omega) (fun i hi => upK_all _ i (by have := P.out.2.2.2; omega)))
        clear ho P hmin
        rcases hgo' with hl | ⟨hl, h60⟩
        all_goals
          go_wp2_with fail
          refine (read_any D n _ _ 0 0 _ O.out.disk (by omega) (by omega)).mono ?_
          rintro e w8 ⟨rfl, rfl⟩
          rw [HS.out.1]
          generalize s.readV 0 0 = junk
          go_wp2_with fail
          refine (sync_any D n _ _ _ O.out.disk).mono ?_
          rintro e w9 ⟨rfl, hS⟩
          rw [HS.out.2.2.1] at hS
          obtain ⟨F9, O9, hO, hF⟩ := On.step O.out hS
          have O9 := Lib.hid O9
          have W9 := Lib.hid (own_only W.out hO HNF.out)
          have R9 := Lib.hid (hO.row R.out HFb.out)
          have P9 := Lib.hid (still hF R.out.lt HFb.out)
          rw [HS.out.2.1]
          clear hS hO hF O W R HFb HNF
          go_wp2_with fail
          refine (cutd_any D n _ _ 3 _ O9.out.disk (by omega)).mono ?_
          rintro e w10 ⟨rfl, hS⟩
          rw [HS.out.2.2.2.2] at hS
          obtain ⟨F10, O10, hO, hF⟩ := On.step O9.out hS
          have O10 := Lib.hid O10
          have W10 := Lib.hid (own_only W9.out hO (own_not W9.out O9.out.disk))
          have R10 := Lib.hid (hO.row R9.out P9.out)
          have P10 := Lib.hid (still hF R9.out.lt P9.out)
          rw [HS.out.2.2.2.1]
          clear hS hO hF O9 W9 R9 P9
          go_wp2_with fail
          refine (pending_of D n _ _ _ O10.out.disk).mono ?_
          rintro e w11 ⟨rfl, rfl⟩
          rw [HP.out]
          go_wp2_with fail
          refine (size_of D n _ _ _ O10.out.disk).mono ?_
          rintro e w11 ⟨rfl, rfl⟩
          obtain ⟨_, o', c', e', hk'⟩ := keep_own W10.out
          injection e' with h1 h2 h3
          subst h1 h3
          have HK := Lib.hid hk'
          have HV := Lib.hid O10.out.disk.good.1.vis
          clear hk'
          go_wp2_with fail
          refine (crash_at D n _ _ ko (upK c) c kc (-1) _ hlk O10.out.disk (by have := HP.out; omega) (by omega) (fun i hi => by
            obtain ⟨a, e, hc, hb⟩ := HK.out i hi
            exact ⟨a, e, hc, by subst e; exact own_not W10.out O10.out.disk _ rfl⟩) (by omega)).mono ?_
          rintro e w11 ⟨rfl, hS⟩
          obtain ⟨F11, O11, hO, hF⟩ := On.step O10.out hS
          have O11 := Lib.hid O11
          have R11 := Lib.hid (hO.row R10.out P10.out)
          clear hS hO hF O10 W10 R10 P10 HK
          have t11 := Lib.hid (read_plain O11.out.disk.good.1 rfl)
          go_wp2_with fail
          refine (read_any D n _ _ 0 n _ O11.out.disk (by omega) (by omega)).mono ?_
          rintro e w12 ⟨rfl, rfl⟩
          rw [t11.out.1, t11.out.2, HC.out]
          have hx := Row.textAll (P := Try.prog) R11.out HV.out 40 9 5 n rfl rfl rfl
          have HX := Lib.hid (show DS.writeE (s.crashS (upK c) (-1)) 0 ⟨#[120]⟩ = 0 ∧ _ from write_plain (o := 0) (t := ⟨#[120]⟩) O11.out.disk.good.1 rfl rfl (by show 0 + 1 ≤ n; omega))
          go_wp2_with fail
          refine (write_any D n _ _ 0 ⟨#[120]⟩ _ O11.out.disk (by omega) (by decide) (by simp [DS.crashS])).mono ?_
          rintro e w13 ⟨rfl, hS⟩
          obtain ⟨F13, O13, _, _⟩ := On.step O11.out hS
          have O13 := Lib.hid O13
          rw [HX.out.1]
          clear hS hx O11
          have HY := Lib.hid (show DS.powE (DS.writeS (s.crashS (upK c) (-1)) 0 ⟨#[120]⟩) = 0 by
            rw [show DS.writeS (s.crashS (upK c) (-1)) 0 ⟨#[120]⟩ = _ from HX.out.2]
            rfl)
          go_wp2_with fail
          refine (sync_any D n _ _ _ O13.out.disk).mono ?_
          rintro e w14 ⟨rfl, hS⟩
          obtain ⟨F14, O14, _, _⟩ := On.step O13.out hS
          have O14 := Lib.hid O14
          rw [HY.out]
          clear hS
          go_wp2
          go_ret
          exact ⟨rfl, O14.out.below⟩
namespace diskCut
set_option maxRecDepth 100000 in
theorem contract (H : Type) (enc : TypeId × Value → H) (W : World) (base : Nat) (args : Array Value) (ds gs : List (DataW H)) (before : List MemPlace)
    (hval : ∀ (j : Nat) t v, Try.f10.params[j]? = some t → args[j]? = some v → Value.okWide Try.prog W .any base t v)
    (hW : DataW.Whole enc Try.prog Try.f10.params.toList Rows.diskCutSpec.vars false W args.toList ds gs before) (_hL : laidMetH Try.prog Rows.diskCutRow.laid W) :
    Calls Try.prog 10 args W fun e W' => ∃ v, e = .returned v ∧ Rows.diskCutSpec.post enc Try.prog Try.f10 false true false false W args v W' := by
  have hW' := hW
  obtain ⟨p, q, hA0, hV, rfl, hfz, hnd⟩ := hW
  have hA : DataW.TrodAll enc Try.prog W 0 (fun _ => true) true Try.f10.params.toList args.toList ds p := hA0
  rw [Try.params10] at hA hval
  obtain ⟨v0, vs0, d0, ds0, p0, q0, hargs, rfl, rfl, h0, r0⟩ := trodAll_cons hA
  obtain ⟨v1, vs1, d1, ds1, p1, q1, rfl, rfl, rfl, h1, r1⟩ := trodAll_cons r0
  obtain ⟨v2, vs2, d2, ds2, p2, q2, rfl, rfl, rfl, h2, r2⟩ := trodAll_cons r1
  obtain ⟨rfl, rfl, rfl⟩ := trodAll_nil r2
  obtain rfl : args = #[v0, v1, v2] := by cases args; simp_all
  obtain ⟨a0, rfl, rfl, rfl, k0⟩ := open_int Try.underlying3 (hval 0 _ _ rfl rfl) h0
  obtain ⟨a1, rfl, rfl, rfl, k1⟩ := open_int Try.underlying3 (hval 1 _ _ rfl rfl) h1
  obtain ⟨oa2, la2, ca2, a2, rfl, ma2, k2, ga2⟩ := open_isbS Try.underlying51 (by kernel_rfl) (by kernel_rfl) (hval 2 _ _ rfl rfl) h2
  refine (cutLaw_any a0 a1 oa2 la2 ca2 a2 W (bd_i64 k0) (bd_i64 k1) ma2 k2 ga2).mono fun e W' ⟨he, hb⟩ => ?_
  subst he
  obtain ⟨rfl, _⟩ := trodVars_none hV
  exact ⟨_, rfl, law_post laidOut (by kernel_rfl) rfl (by kernel_rfl) Try.underlying4 hW' rfl hb⟩

def args0 : Array Value := #[.int .i64 0, .int .i64 0, .slice none 0 0]
theorem laid_met (os : Os) : laidMet Try.prog Rows.diskCutRow.laid ((laidWorld os).forCall (fun _ _ => 0) ⟨#[], args0, []⟩).memory :=
  laidMet_of_run' 8 (by kernel_rfl) (by kernel_rfl)
theorem reads (os : Os) {H : Type} (enc : TypeId × Value → H) : ∃ places, DataW.whole enc Try.prog ((laidWorld os).forCall (fun _ _ => 0) ⟨#[], args0, []⟩).memory Try.f10.params.toList Rows.diskCutSpec.vars false args0.toList 8 = some ([.lit (.int .i64 0), .lit (.int .i64 0), .nil], [], places) :=
  ⟨[], by kernel_rfl⟩

set_option maxRecDepth 100000 in
theorem lifted (os : Os) (started : os.Started) (H : Type) (enc : TypeId × Value → H) (F : Stop.Interp) :
    ReturnsInHanded {} Try.checked os 10 .any ((OpenSpec.ofChange Rows.diskCutSpec).preRow enc Try.prog Try.f10 Rows.diskCutRow.domain false Rows.diskCutRow.laid) (((OpenSpec.ofChange Rows.diskCutSpec).at F).post enc Try.prog Try.f10 false true false false) := by
  obtain ⟨places, hx⟩ := reads os enc
  refine returnsInHanded_of_row (C := Try.checked) (s := OpenSpec.ofChange Rows.diskCutSpec) own started (by kernel_rfl) Try.func10
    (witness_row_at (enc := enc) (C := Try.checked) false (laidWorld os) args0 rfl (by kernel_rfl) (by kernel_rfl) (by kernel_rfl)
      (OpenSpec.preRow_of_cond 8 hx (by kernel_rfl) (fun k hk => by cases hk) (by kernel_rfl) (laid_met os))) ?_
  intro W base args ds gs before hval hW _ _ _ hL _ _
  exact contract H enc W base args ds gs before hval hW hL

theorem said : Rows.DiskCutSaid :=
  OpenClaim.holds_of_cond 10 Try.f10 rfl rfl rfl rfl rfl rfl rfl ⟨rfl, rfl, rfl, rfl, rfl⟩ rfl rfl rfl rfl rfl (by kernel_rfl) Try.func10 (by kernel_rfl)
    (of_decide_eq_true (by kernel_rfl)) (by unfold Func.isWrapper; first | (rw [if_pos (by decide +kernel)]; kernel_rfl) | (rw [if_neg (by decide +kernel)]; exact ⟨rfl, rfl⟩))
    (fun os started H enc _ F => by rw [OpenClaim.pre_eq_preRow]; exact lifted os started H enc F)

end diskCut
end Go.Proofs.Ytgmghfgcpjpigaa
