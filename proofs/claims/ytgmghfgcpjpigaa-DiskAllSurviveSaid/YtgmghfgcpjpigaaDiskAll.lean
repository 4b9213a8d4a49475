/- For every input, DiskAllSurvive returns true and leaves its arguments as they were. -/
import Derived.Test.YtgmghfgcpjpigaaDiskFrame
namespace Go.Proofs.Ytgmghfgcpjpigaa
open Go.RowKit Go.ChangeShapes Go.WideShapes Go.ChangeAt

set_option maxRecDepth 100000 in
set_option maxHeartbeats 4000000 in
theorem allSurvive_any (z : Int) (o : Option Addr) (len cap : Nat) (L : Nat → Int × ByteArray × Bool) (w : World) (bz : -9223372036854775808 ≤ z ∧ z ≤ 9223372036854775807) (_ : len ≤ maxLen)
    (b1 : ∀ i, i < len → -9223372036854775808 ≤ (L i).1 ∧ (L i).1 ≤ 9223372036854775807 ∧ (L i).2.1.size ≤ maxLen)
    (b2 : ∀ i, i < len → ∃ a, o = some a ∧ ∀ w', Below w.heap.size w w' → w'.cell? (a.add (i * 3)) = some (.int .i64 (L i).1) ∧ w'.cell? ⟨(a.add (i * 3)).block, (a.add (i * 3)).off + 1, none⟩ = some (.string (L i).2.1) ∧ w'.cell? ⟨(a.add (i * 3)).block, (a.add (i * 3)).off + 2, none⟩ = some (.bool (L i).2.2)) :
    Calls Try.prog 9 #[.int .i64 z, .slice o len cap] w fun r w' => r = .returned (.bool true) ∧ Below w.heap.size w w' := by
  have HB1 := Lib.hid b1
  have HB2 := Lib.hid b2
  have pb := pick_bd z 300 (by omega)
  obtain ⟨n, en⟩ : ∃ n : Nat, (n : Int) = 1 + pickZ z 300 := ⟨(1 + pickZ z 300).toNat, by omega⟩
  have CP := Lib.hid (fun w => pick_any z 300 w (by omega) bz.1 bz.2)
  have n1 : 1 ≤ n := by omega
  have n2 : n ≤ 300 := by omega
  have EN := Lib.hid en
  obtain ⟨pb1, pb2⟩ := pb
  clear b1 b2 en
  go_enter Try.func9, Try.ntmps9
  go_wp2_with fail
  refine (sane_any _).mono ?_
  rintro e w1 ⟨rfl, hb⟩
  have HB := Lib.hid hb
  clear hb
  go_upto_region 2 with (fail)
  go_cut [0] (fun v wx => v = .int .i64 n ∧ wx = w1)
  case first =>
    go_wp2_with fail
    refine (CP.out _).mono ?_
    rintro e w2 ⟨rfl, rfl⟩
    go_wp2_with fail
    go_meet
    exact ⟨congrArg (Value.int .i64) EN.out.symm, rfl⟩
  obtain ⟨rfl, rfl⟩ := hcut
  rename World => w1
  clear pb1 pb2
  go_wp2_with fail
  refine (new_any n w1 n1 (by omega)).mono ?_
  rintro e w2 ⟨D, F, rfl, hb, hD, hF⟩
  have O := Lib.hid (On.new HB.out hb hD hF)
  clear hb hD hF
  clear HB
  go_wp2_with fail
  go_loopw [8] (fun i wr => ∃ (k : Nat) (F : Nat → Prop) (s : DS), k ≤ 60 ∧ i = .int .i64 k ∧ On w wr F D n s ∧ s.off = false ∧ s.after = 0 ∧ s.pend.length ≤ k) (fun i _ => 60 - (intOf i).toNat)
  case atStart => exact ⟨0, F, DS.fresh n, by omega, rfl, O.out, rfl, rfl, Nat.le_refl _⟩
  case round =>
    clear O
    obtain ⟨k, F, s, hk, rfl, hO, ho, ha, hp⟩ := hrel
    have O := Lib.hid hO
    have P := Lib.hid (And.intro ho (And.intro ha hp))
    clear hO ho ha hp
    by_cases hgo : k < len ∧ k < 60
    · obtain ⟨hl, h60⟩ := hgo
      obtain ⟨ad, rfl, hc⟩ := HB2.out k hl
      obtain ⟨x0, x1, x2⟩ := HB1.out k hl
      obtain ⟨c0, c1, c2⟩ := hc wr O.out.below
      obtain ⟨⟨z0, s0, y0⟩, eL⟩ : ∃ q, q = L k := ⟨_, rfl⟩
      rw [← eL] at x0 x1 x2 c0 c1 c2
      clear hc eL
      dsimp only at x0 x1 x2 c0 c1 c2
      go_wp2_with fail
      refine (fits_any z0 s0 y0 n wr ⟨x0, x1⟩ x2 (by omega)).mono ?_
      rintro e w3 ⟨rfl, hb⟩
      have O3 := Lib.hid (O.out.next hb)
      have HF := Lib.hid (fit_ok z0 s0 n)
      have hq := fitO_le z0 n
      generalize fitO z0 n = q at *
      generalize fitS z0 s0 n = t at *
      have tq : t.size ≤ 300 := by have := HF.out; omega
      clear hb c0 c1 c2 x0 x1 x2 O
      have RW := Lib.hid (Row.new w3 53 [.int .i64 q, .string t, .bool y0])
      have O4 := Lib.hid (O3.out.next (show Below w3.heap.size w3 (w3.alloc (.cells #[.int .i64 q, .string t, .bool y0] 53)) from (Below.refl _ _).alloc (Nat.le_refl _) _))
      have HL := Lib.hid (fun h => Nat.lt_irrefl _ (O3.out.disk.lt w3.heap.size h))
      clear O3
      have HW := Lib.hid (write_plain O4.out.disk.good.1 P.out.1 P.out.2.1 HF.out)
      go_wp2_with fail
      refine (write_any D n _ _ q t _ O4.out.disk (by omega) (by unfold maxLen; omega) (by have := P.out.2.2; omega)).mono ?_
      rintro e w6 ⟨rfl, hS⟩
      rw [HW.out.2] at hS
      obtain ⟨F6, O6, hO, hF⟩ := On.step O4.out hS
      have O6 := Lib.hid O6
      obtain ⟨lw, el⟩ : ∃ lw, lw = w3.heap.size := ⟨_, rfl⟩
      rw [← el] at RW HL ⊢
      have RW6 := Lib.hid (hO.row RW.out HL.out)
      have P6 := Lib.hid (And.intro P.out.1 (And.intro P.out.2.1 (show (s.pend ++ [(q, t)]).length ≤ k + 1 by have := P.out.2.2; simp; omega)))
      rw [HW.out.1]
      clear hS hO hF O4 RW P HW el
      have c2 := RW6.out.cell 2
      simp only [List.getElem?_cons_succ, List.getElem?_cons_zero] at c2
      cases y0
      · go_wp2_with fail
        go_roundw
        case rel => exact ⟨k + 1, _, _, by omega, by go_num, O6.out, P6.out⟩
        case measure => simp [intOf]; omega
      · have HS := Lib.hid (sync_plain (s := { s with pend := s.pend ++ [(q, t)], vis := over s.vis q t.data.toList }) P6.out.1)
        go_wp2_with fail
        refine (sync_any D n _ _ _ O6.out.disk).mono ?_
        rintro e w7 ⟨rfl, hS⟩
        rw [HS.out.2] at hS
        obtain ⟨F7, O7, hO, hF⟩ := On.step O6.out hS
        have O7 := Lib.hid O7
        have P7 := Lib.hid (And.intro P6.out.1 (And.intro P6.out.2.1 (show ([] : List (Nat × ByteArray)).length ≤ k + 1 by simp)))
        rw [HS.out.1]
        clear hS hO hF O6 RW6 P6 HS c2
        go_wp2_with fail
        go_roundw
        case rel => exact ⟨k + 1, _, _, by omega, by go_num, O7.out, P7.out⟩
        case measure => simp [intOf]; omega
    · have hgo' : ¬ (k : Int) < len ∨ ((k : Int) < len ∧ ¬ (k : Int) < 60) := by omega
      clear hgo
      obtain ⟨hp, hq⟩ : s.pend.length ≤ 60 ∧ s.off = false := ⟨by have := P.out.2.2; omega, P.out.1⟩
      clear P
      obtain ⟨wS, hS⟩ : ∃ wS, wS = wr := ⟨_, rfl⟩
      have HC1 := Lib.hid (crashL_all O.out.disk.good.1 (upK s.pend.length) (-1) (by omega) (fun i hi => upK_all _ i hi))
      have tx := Lib.hid (read_plain O.out.disk.good.1 hq)
      obtain ⟨m, em⟩ : ∃ m, m = s.pend.length := ⟨_, rfl⟩
      rw [← em] at hp HC1
      have EM := Lib.hid em
      obtain ⟨i0, hi, hz0, hz1, hz2⟩ := info_parts infoInt
      clear em hq
      rcases hgo' with hl | ⟨hl, h60⟩
      all_goals
        go_wp2_with fail
        refine (read_any D n _ _ 0 n _ O.out.disk (by omega) (by omega)).mono ?_
        rintro e w8 ⟨rfl, rfl⟩
        rw [tx.out.1, tx.out.2]
        go_wp2_with fail
        rw [← hS] at O ⊢
        go_loopw [12, 13] (fun v i wr => ∃ k : Nat, k ≤ m ∧ i = .int .i64 k ∧ wr.ownsRow wS.heap.size 3 1 v k (intC (upK k)) ∧ Below wS.heap.size wS wr) (fun _ i _ => m - (intOf i).toNat)
        case atStart => exact ⟨0, Nat.zero_le _, rfl, World.ownsRow_nil _ _ _ _, Below.refl _ _⟩
        case round =>
          obtain ⟨j, hj, rfl, hown, hB⟩ := hrel
          have Dr := Lib.hid (O.out.next hB)
          have CPd := Lib.hid (fun w h => pending_of D n F s w h)
          rw [← EM.out] at CPd
          by_cases hlt : j < m
          · have hsz := hB.size
            have HBB := Lib.hid hB
            clear hB
            go_wp2_with (first | (go_at_call 17; refine (CPd.out _ Dr.out.disk).mono ?_; rintro e w9 ⟨rfl, rfl⟩) | (at_builtin; refine wpList_append_own_at _ rfl _ _ 37 rfl wS.heap.size 3 i0 _ 1 8 Try.underlying37 hi hz0 hz1 hz2 rfl (by decide) _ j (intC (upK j)) rfl (hown.alloc _) ⟨wr.heap.size, 0, none⟩ 1 1 [.int .i64 j] rfl rfl (cell_one_new _ _ _) (by simp [Value.oneCell']) (by unfold maxLen; omega) (by omega) (by simp; omega) ?_; intro v' w2 hown' hgrow _ hat; have K := Lib.hid (And.intro hown' hgrow); clear hown' hgrow hat))
            go_roundw
            case rel =>
              obtain ⟨hown', hgrow⟩ := K.out
              refine ⟨j + 1, by omega, by go_num, by rw [upK_more, intC_more]; exact hown', ((HBB.out.alloc hsz _).grown hgrow (by simp; omega) (fun k hk => (hown.lt k hk).1))⟩
            case measure => simp [intOf]; omega
          · obtain rfl : j = m := by omega
            obtain ⟨hlk, ko, kc, rfl, hk⟩ := keep_own hown
            have HK := Lib.hid hk
            have HLT := Lib.hid (O.out.disk.lt)
            have HR := Lib.hid (show (s.crashS (upK j) (-1)).vis = s.vis from HC1.out)
            have HR2 := Lib.hid (show ((s.crashS (upK j) (-1)).crashS [] 0).vis = s.vis from (crashL_none _ 0).trans HC1.out)
            clear hk hown hB O hlt
            go_wp2_with (go_at_call 17; refine (CPd.out _ Dr.out.disk).mono ?_; rintro e w9 ⟨rfl, rfl⟩)
            refine (crash_at D n F s ko (upK j) j kc (-1) _ hlk Dr.out.disk (by rw [← EM.out]; omega) (by omega) (fun i hi => by
              obtain ⟨a, e, hc, hb⟩ := HK.out i hi
              exact ⟨a, e, hc, fun hF => absurd (HLT.out _ hF) (by omega)⟩) (by omega)).mono ?_
            rintro e w9 ⟨rfl, hS9⟩
            obtain ⟨F9, O9, _, _⟩ := On.step Dr.out hS9
            have O9 := Lib.hid O9
            clear hS9 Dr
            have t9 := Lib.hid (read_plain O9.out.disk.good.1 rfl)
            go_wp2_with fail
            refine (read_any D n _ _ 0 n _ O9.out.disk (by omega) (by omega)).mono ?_
            rintro e w10 ⟨rfl, rfl⟩
            rw [t9.out.1, t9.out.2, HR.out]
            go_wp2_with fail
            refine (crash_any D n _ _ none [] 0 0 _ O9.out.disk (by simp [DS.crashS]) (by simp) (fun i hi => absurd hi (Nat.not_lt_zero _)) (by omega)).mono ?_
            rintro e w11 ⟨rfl, hS9⟩
            obtain ⟨F11, O11, _, _⟩ := On.step O9.out hS9
            have O11 := Lib.hid O11
            clear hS9 O9
            have t11 := Lib.hid (read_plain O11.out.disk.good.1 rfl)
            go_wp2_with fail
            refine (read_any D n _ _ 0 n _ O11.out.disk (by omega) (by omega)).mono ?_
            rintro e w12 ⟨rfl, rfl⟩
            rw [t11.out.1, t11.out.2, HR2.out]
            go_wp2
            go_ret
            exact ⟨rfl, O11.out.below⟩
namespace diskAllSurvive
set_option maxRecDepth 100000 in
theorem contract (H : Type) (enc : TypeId × Value → H) (W : World) (base : Nat) (args : Array Value) (ds gs : List (DataW H)) (before : List MemPlace)
    (hval : ∀ (j : Nat) t v, Try.f9.params[j]? = some t → args[j]? = some v → Value.okWide Try.prog W .any base t v)
    (hW : DataW.Whole enc Try.prog Try.f9.params.toList Rows.diskAllSurviveSpec.vars false W args.toList ds gs before) (_hL : laidMetH Try.prog Rows.diskAllSurviveRow.laid W) :
    Calls Try.prog 9 args W fun e W' => ∃ v, e = .returned v ∧ Rows.diskAllSurviveSpec.post enc Try.prog Try.f9 false true false false W args v W' := by
  have hW' := hW
  obtain ⟨p, q, hA0, hV, rfl, hfz, hnd⟩ := hW
  have hA : DataW.TrodAll enc Try.prog W 0 (fun _ => true) true Try.f9.params.toList args.toList ds p := hA0
  rw [Try.params9] at hA hval
  obtain ⟨v0, vs0, d0, ds0, p0, q0, hargs, rfl, rfl, h0, r0⟩ := trodAll_cons hA
  obtain ⟨v1, vs1, d1, ds1, p1, q1, rfl, rfl, rfl, h1, r1⟩ := trodAll_cons r0
  obtain ⟨rfl, rfl, rfl⟩ := trodAll_nil r1
  obtain rfl : args = #[v0, v1] := by cases args; simp_all
  obtain ⟨a0, rfl, rfl, rfl, k0⟩ := open_int Try.underlying3 (hval 0 _ _ rfl rfl) h0
  obtain ⟨oa1, la1, ca1, a1, rfl, ma1, k1, ga1⟩ := open_isbS Try.underlying51 (by kernel_rfl) (by kernel_rfl) (hval 1 _ _ rfl rfl) h1
  refine (allSurvive_any a0 oa1 la1 ca1 a1 W (bd_i64 k0) ma1 k1 ga1).mono fun e W' ⟨he, hb⟩ => ?_
  subst he
  obtain ⟨rfl, _⟩ := trodVars_none hV
  exact ⟨_, rfl, law_post laidOut (by kernel_rfl) rfl (by kernel_rfl) Try.underlying4 hW' rfl hb⟩

def args0 : Array Value := #[.int .i64 0, .slice none 0 0]
theorem laid_met (os : Os) : laidMet Try.prog Rows.diskAllSurviveRow.laid ((laidWorld os).forCall (fun _ _ => 0) ⟨#[], args0, []⟩).memory :=
  laidMet_of_run' 8 (by kernel_rfl) (by kernel_rfl)
theorem reads (os : Os) {H : Type} (enc : TypeId × Value → H) : ∃ places, DataW.whole enc Try.prog ((laidWorld os).forCall (fun _ _ => 0) ⟨#[], args0, []⟩).memory Try.f9.params.toList Rows.diskAllSurviveSpec.vars false args0.toList 8 = some ([.lit (.int .i64 0), .nil], [], places) :=
  ⟨[], by kernel_rfl⟩

set_option maxRecDepth 100000 in
theorem lifted (os : Os) (started : os.Started) (H : Type) (enc : TypeId × Value → H) (F : Stop.Interp) :
    ReturnsInHanded {} Try.checked os 9 .any ((OpenSpec.ofChange Rows.diskAllSurviveSpec).preRow enc Try.prog Try.f9 Rows.diskAllSurviveRow.domain false Rows.diskAllSurviveRow.laid) (((OpenSpec.ofChange Rows.diskAllSurviveSpec).at F).post enc Try.prog Try.f9 false true false false) := by
  obtain ⟨places, hx⟩ := reads os enc
  refine returnsInHanded_of_row (C := Try.checked) (s := OpenSpec.ofChange Rows.diskAllSurviveSpec) own started (by kernel_rfl) Try.func9
    (witness_row_at (enc := enc) (C := Try.checked) false (laidWorld os) args0 rfl (by kernel_rfl) (by kernel_rfl) (by kernel_rfl)
      (OpenSpec.preRow_of_cond 8 hx (by kernel_rfl) (fun k hk => by cases hk) (by kernel_rfl) (laid_met os))) ?_
  intro W base args ds gs before hval hW _ _ _ hL _ _
  exact contract H enc W base args ds gs before hval hW hL

theorem said : Rows.DiskAllSurviveSaid :=
  OpenClaim.holds_of_cond 9 Try.f9 rfl rfl rfl rfl rfl rfl rfl ⟨rfl, rfl, rfl, rfl, rfl⟩ rfl rfl rfl rfl rfl (by kernel_rfl) Try.func9 (by kernel_rfl)
    (of_decide_eq_true (by kernel_rfl)) (by unfold Func.isWrapper; first | (rw [if_pos (by decide +kernel)]; kernel_rfl) | (rw [if_neg (by decide +kernel)]; exact ⟨rfl, rfl⟩))
    (fun os started H enc _ F => by rw [OpenClaim.pre_eq_preRow]; exact lifted os started H enc F)

end diskAllSurvive
end Go.Proofs.Ytgmghfgcpjpigaa
