/- The reference implementation: the digits of a text. -/
/- The reference implementation: Valid. -/
import Derived.Test.YtjhnfejlkljkjaaGreatDoorIntRCG
namespace Go.Proofs.YtjhnfejlkljkjaaGreatDoor
open Go.RowKit

theorem digit_at {d : ByteArray} {u m : Nat} (h0 : u ≠ 0) (hd : d.data.toList = Lib.decDigits u) (hm : m < (In.dg u).length) : ∃ (x : Nat) (h : m < d.size), (In.dg u)[(In.dg u).length - 1 - m]? = some x ∧ (d[m]'h).toNat = 48 + x ∧ x < 10 := by
  have hm2 : (In.dg u).length - 1 - m < (In.dg u).length := by omega
  obtain ⟨x, hx⟩ : ∃ x, (In.dg u)[(In.dg u).length - 1 - m]? = some x := ⟨_, List.getElem?_eq_getElem hm2⟩
  have lx : x < 10 := In.dg_lt u x (List.mem_of_getElem? hx)
  have hl : d.data.toList[m]? = some (UInt8.ofNat (48 + x)) := by
    rw [hd, In.dg_dec u h0, List.getElem?_reverse (by rw [List.length_map]; exact hm), List.length_map, List.getElem?_map, hx]
    rfl
  have hs : m < d.size := by
    have := (List.getElem?_eq_some_iff.1 hl).1
    simpa using this
  refine ⟨x, hs, hx, ?_, lx⟩
  have h2 := ba_at d m hs
  rw [hl] at h2
  rw [← Option.some.inj h2]
  exact (In.ofNat_dig lx).2.2
theorem dec_len {u : Nat} (h0 : u ≠ 0) : (Lib.decDigits u).length = (In.dg u).length := by rw [In.dg_dec u h0]; simp
theorem dec_one {u : Nat} (h0 : u ≠ 0) : Lib.decDigits u ≠ [48] := by
  obtain ⟨c, r, h1, h2⟩ := In.dec_head u h0
  rw [h1]
  intro h
  exact h2 (List.cons.inj h).1
theorem str_beq (d : ByteArray) : (d.toList == ([48] : List UInt8)) = decide (d.data.toList = [48]) := by rw [ByteArray.toList_eq, Bool.eq_iff_iff]; simp
theorem tail_list (s : ByteArray) : (s.extract 1 s.size).data.toList = s.data.toList.tail := by
  rw [ext_list, List.take_of_length_le (by simp), List.drop_one]
set_option maxRecDepth 100000 in
set_option maxHeartbeats 2000000 in
theorem rdigits_any (s : ByteArray) (z : Int) (w : World) (hs : In.num s = some z) :
    Calls Tryz.prog 30 #[.string s] w fun e w' => ∃ v, e = .returned (.tuple #[.bool (In.neg z), v]) ∧ DSl w' v z.natAbs ∧ Below w.heap.size w w' := by
  obtain ⟨i0, hi, hz0, hz1, hz2⟩ := info_parts infoInt
  obtain ⟨hsx, hfit⟩ := In.num_some hs
  have hfit : z.natAbs < 10 ^ 200 := hfit
  have hl := In.txt_list z
  rw [← hsx] at hl
  unfold In.txtL Lib.itoa at hl
  clear hs hsx
  obtain ⟨u, hu⟩ : ∃ u, u = z.natAbs := ⟨_, rfl⟩
  by_cases hz : z < 0
  · rw [if_pos hz, ← hu] at hl
    have hneg : In.neg z = true := decide_eq_true hz
    rw [hneg]
    rw [← hu] at hfit ⊢
    have hp : 0 < s.size := by
      have : 0 < s.data.toList.length := by rw [hl]; simp
      simpa using this
    have i1 := fun (w : World) => run_index_at (P := Tryz.prog) w 9 s .i64 0 rfl hp
    have h45 : (s[0]'hp) = 45 := by
      have h1 := ba_at s 0 hp
      rw [hl] at h1
      exact (Option.some.inj h1).symm
    rw [show ((0 : Nat) : Int) = 0 from rfl, h45, show ((45 : UInt8).toNat : Int) = 45 from rfl] at i1
    have hu0 : u ≠ 0 := by omega
    obtain ⟨d, hd⟩ : ∃ d, d = s.extract 1 s.size := ⟨_, rfl⟩
    have hdl := tail_list s
    rw [← hd, hl, List.tail_cons] at hdl
    replace hl := hdl
    have he : s.extract 1 s.size = d := hd.symm
    clear hdl hd h45 hneg hz
    ·
      have hb := str_beq d
      rw [hl, decide_eq_false (dec_one hu0)] at hb
      have hsz : d.size = (In.dg u).length := by
        have : d.data.toList.length = (In.dg u).length := by rw [hl, dec_len hu0]
        simpa using this
      have HAT := Lib.hid (fun m (hm : m < (In.dg u).length) => digit_at hu0 hl hm)
      have hle : (In.dg u).length ≤ 200 := In.dg_len_le hfit
      obtain ⟨L, hL⟩ : ∃ L, (In.dg u).length = L := ⟨_, rfl⟩
      rw [hL] at hsz HAT hle
      have HL := Lib.hid hL
      clear hL hl hfit hu
      go_enter Tryz.func30, Tryz.ntmps30
      go_wp2_with fail
      go_loopw [5, 6] (fun ov iv wr => ∃ k : Nat, k ≤ L ∧ iv = .int .i64 ((k : Int) - 1) ∧ wr.ownsRow w.heap.size 3 1 ov (L - k) (((In.dg u).take (L - k)).map natV) ∧ Below w.heap.size w wr) (fun _ iv _ => (intOf iv + 1).toNat)
      case atStart => exact ⟨L, Nat.le_refl _, by first | rfl | go_num, by rw [Nat.sub_self, List.take_zero]; exact World.ownsRow_nil _ _ _ _, Below.refl _ _⟩
      case round =>
        obtain ⟨k, hk, rfl, hrow, hB⟩ := hrel
        cases k with
        | zero =>
          rw [show ((0 : Nat) : Int) - 1 = -1 from rfl]
          rw [Nat.sub_zero, List.take_of_length_le (Nat.le_of_eq HL.out)] at hrow
          obtain ⟨o, c, rfl, k1, k2, k3, k4⟩ := own_nats hrow
          unfold maxLen at k2
          have HF := Lib.hid (DSl.mk' HL.out k1 (by omega) k3 k4)
          have HB := Lib.hid hB
          clear hB hrow k1 k2 k3 k4
          go_wp2_with fail
          go_ret2
          exact ⟨_, rfl, HF.out, HB.out⟩
        | succ m =>
          rw [show ((m + 1 : Nat) : Int) - 1 = (m : Int) by omega]
          obtain ⟨x, hm, hx, hc, lx⟩ := HAT.out m (by omega)
          have i2 := fun (w : World) => run_index_at (P := Tryz.prog) w 9 d .i64 m rfl hm
          have HN := Lib.hid (show (In.dg u).take (L - m) = (In.dg u).take (L - (m + 1)) ++ [x] from by
            rw [show L - m = L - 1 - m + 1 by omega, show L - (m + 1) = L - 1 - m by omega, List.take_add_one, hx, Option.toList_some])
          generalize (d[m]'hm).toNat = c at *
          have HC := Lib.hid hc
          have hc1 : 48 ≤ c := by omega
          have hc2 : c ≤ 57 := by omega
          have w1 : IntKind.u8.wrap ((c : Int) - 48) = (c : Int) - 48 := by simp [IntKind.wrap, IntKind.bits, IntKind.signed]; omega
          have hob := Lib.hid (own_block hrow)
          have hbs := hB.size
          have HR := Lib.hid hrow
          have HB := Lib.hid hB
          clear hx hc hrow hB
          go_wp2_with (at_builtin; refine wpList_append_nats rfl _ _ 38 Tryz.underlying38 rfl rfl w.heap.size _ (L - (m + 1)) ((In.dg u).take (L - (m + 1))) rfl (HR.out.alloc _) (some ⟨wr.heap.size, 0, none⟩) 1 1 [x] rfl rfl (fun h => by cases h) (lsl_one _ _ x (by have := HC.out; omega)) (by omega) (by simp; omega) ?_; intro v' w1 hown' hgrow; have K := Lib.hid (And.intro hown' hgrow); clear hown' hgrow)
          go_roundw
          case rel => exact ⟨m, by omega, by go_num, own_is K.out.1 (by omega) (by rw [HN.out]), (HB.out.alloc hbs _).grown K.out.2 (by simp; omega) hob.out⟩
          case measure => simp [intOf]
  · rw [if_neg hz] at hl
    have hneg : In.neg z = false := decide_eq_false hz
    rw [hneg]
    rw [show z.toNat = z.natAbs by omega, ← hu] at hl
    rw [← hu] at hfit ⊢
    have h45 : s.data.toList.head? ≠ some 45 := by rw [hl]; exact In.head_dec u
    have hp : 0 < s.size := by
      have := List.length_pos_iff.2 (In.dec_ne u)
      rw [← hl] at this
      simpa using this
    have h45' : ((s[0]'hp).toNat : Int) ≠ 45 := by
      intro h
      apply h45
      rw [List.head?_eq_getElem?, ba_at s 0 hp]
      congr 1
      apply UInt8.toNat_inj.1
      show _ = 45
      omega
    have i1 := fun (w : World) => run_index_at (P := Tryz.prog) w 9 s .i64 0 rfl hp
    rw [show ((0 : Nat) : Int) = 0 from rfl] at i1
    generalize (s[0]'hp).toNat = c0 at *
    have dd : decide ((c0 : Int) = 45) = false := decide_eq_false h45'
    have d3 : ((c0 : Int) == 45) = false := by simpa using h45'
    clear h45 hneg hz
    by_cases hu0 : u = 0
    · have hb := str_beq s
      rw [hl, hu0, In.dec_zero, decide_eq_true rfl] at hb
      have hs1 : s.size = 1 := by
        have : s.data.toList.length = 1 := by rw [hl, hu0, In.dec_zero]; rfl
        simpa using this
      have HU := Lib.hid hu0
      clear hl hu0 hfit hu
      go_enter Tryz.func30, Tryz.ntmps30
      go_wp2_with fail
      go_loopw [5, 6] (fun ov iv wr => ov = .slice none 0 0 ∧ iv = .int .i64 0 ∧ Below w.heap.size w wr) (fun _ _ _ => 0)
      case atStart => exact ⟨rfl, by first | rfl | go_num, Below.refl _ _⟩
      case round =>
        obtain ⟨rfl, rfl, hB⟩ := hrel
        have HB := Lib.hid hB
        clear hB
        go_wp2_with fail
        go_ret2
        exact ⟨_, rfl, by rw [HU.out]; exact dsl_zero _, HB.out⟩
    · have hb := str_beq s
      rw [hl, decide_eq_false (dec_one hu0)] at hb
      have hsz : s.size = (In.dg u).length := by
        have : s.data.toList.length = (In.dg u).length := by rw [hl, dec_len hu0]
        simpa using this
      have HAT := Lib.hid (fun m (hm : m < (In.dg u).length) => digit_at hu0 hl hm)
      have hle : (In.dg u).length ≤ 200 := In.dg_len_le hfit
      obtain ⟨L, hL⟩ : ∃ L, (In.dg u).length = L := ⟨_, rfl⟩
      rw [hL] at hsz HAT hle
      have HL := Lib.hid hL
      clear hL hl hfit hu
      go_enter Tryz.func30, Tryz.ntmps30
      go_wp2_with fail
      go_loopw [5, 6] (fun ov iv wr => ∃ k : Nat, k ≤ L ∧ iv = .int .i64 ((k : Int) - 1) ∧ wr.ownsRow w.heap.size 3 1 ov (L - k) (((In.dg u).take (L - k)).map natV) ∧ Below w.heap.size w wr) (fun _ iv _ => (intOf iv + 1).toNat)
      case atStart => exact ⟨L, Nat.le_refl _, by first | rfl | go_num, by rw [Nat.sub_self, List.take_zero]; exact World.ownsRow_nil _ _ _ _, Below.refl _ _⟩
      case round =>
        obtain ⟨k, hk, rfl, hrow, hB⟩ := hrel
        cases k with
        | zero =>
          rw [show ((0 : Nat) : Int) - 1 = -1 from rfl]
          rw [Nat.sub_zero, List.take_of_length_le (Nat.le_of_eq HL.out)] at hrow
          obtain ⟨o, c, rfl, k1, k2, k3, k4⟩ := own_nats hrow
          unfold maxLen at k2
          have HF := Lib.hid (DSl.mk' HL.out k1 (by omega) k3 k4)
          have HB := Lib.hid hB
          clear hB hrow k1 k2 k3 k4
          go_wp2_with fail
          go_ret2
          exact ⟨_, rfl, HF.out, HB.out⟩
        | succ m =>
          rw [show ((m + 1 : Nat) : Int) - 1 = (m : Int) by omega]
          obtain ⟨x, hm, hx, hc, lx⟩ := HAT.out m (by omega)
          have i2 := fun (w : World) => run_index_at (P := Tryz.prog) w 9 s .i64 m rfl hm
          have HN := Lib.hid (show (In.dg u).take (L - m) = (In.dg u).take (L - (m + 1)) ++ [x] from by
            rw [show L - m = L - 1 - m + 1 by omega, show L - (m + 1) = L - 1 - m by omega, List.take_add_one, hx, Option.toList_some])
          generalize (s[m]'hm).toNat = c at *
          have HC := Lib.hid hc
          have hc1 : 48 ≤ c := by omega
          have hc2 : c ≤ 57 := by omega
          have w1 : IntKind.u8.wrap ((c : Int) - 48) = (c : Int) - 48 := by simp [IntKind.wrap, IntKind.bits, IntKind.signed]; omega
          have hob := Lib.hid (own_block hrow)
          have hbs := hB.size
          have HR := Lib.hid hrow
          have HB := Lib.hid hB
          clear hx hc hrow hB
          go_wp2_with (at_builtin; refine wpList_append_nats rfl _ _ 38 Tryz.underlying38 rfl rfl w.heap.size _ (L - (m + 1)) ((In.dg u).take (L - (m + 1))) rfl (HR.out.alloc _) (some ⟨wr.heap.size, 0, none⟩) 1 1 [x] rfl rfl (fun h => by cases h) (lsl_one _ _ x (by have := HC.out; omega)) (by omega) (by simp; omega) ?_; intro v' w1 hown' hgrow; have K := Lib.hid (And.intro hown' hgrow); clear hown' hgrow)
          go_roundw
          case rel => exact ⟨m, by omega, by go_num, own_is K.out.1 (by omega) (by rw [HN.out]), (HB.out.alloc hbs _).grown K.out.2 (by simp; omega) hob.out⟩
          case measure => simp [intOf]
end Go.Proofs.YtjhnfejlkljkjaaGreatDoor
namespace Go.Proofs.YtjhnfejlkljkjaaGreatDoor
open Go.RowKit

theorem dl_tail {l : List UInt8} (h : l.head? = some 45) : In.dl l = l.tail := if_pos h
theorem dl_same {l : List UInt8} (h : l.head? ≠ some 45) : In.dl l = l := if_neg h
set_option maxRecDepth 100000 in
set_option maxHeartbeats 4000000 in
theorem rvalid_any (s : ByteArray) (w : World) (hmax : s.size ≤ maxLen) : Calls Tryz.prog 22 #[.string s] w fun e w' => e = .returned (.bool (In.validL s.data.toList)) ∧ w = w' := by
  obtain ⟨V, hV⟩ : ∃ V, V = In.validL s.data.toList := ⟨_, rfl⟩
  rw [← hV]
  have HV := Lib.hid hV
  unfold maxLen at hmax
  clear hV
  rcases Nat.eq_zero_or_pos s.size with h0 | hp
  · have hs : s.data.toList = [] := List.eq_nil_of_length_eq_zero (by simpa using h0)
    have hV : V = false := by rw [HV.out, hs]; rfl
    have HV2 := Lib.hid hV
    clear HV hs hV
    go_enter Tryz.func22, Tryz.ntmps22
    go_wp2_with fail
    go_loopw [3] (fun iv wr => iv = .int .i64 0 ∧ wr = w) (fun _ _ => 0)
    case atStart => exact ⟨by first | rfl | go_num, rfl⟩
    case round =>
      obtain ⟨rfl, rfl⟩ := hrel
      go_wp2_with fail
      go_ret
      exact ⟨retv (vbool HV2.out.symm), rfl⟩
  have hb := str_beq s
  have i1 := fun (w : World) => run_index_at (P := Tryz.prog) w 9 s .i64 0 rfl hp
  rw [show ((0 : Nat) : Int) = 0 from rfl] at i1
  have hh : s.data.toList.head? = some (s[0]'hp) := by rw [List.head?_eq_getElem?, ba_at s 0 hp]
  have d9 : decide (0 < (s.size : Int)) = true := by rw [decide_eq_true_eq]; omega
  by_cases h45 : (s[0]'hp) = 45
  · have h45' : s.data.toList.head? = some 45 := by rw [hh, h45]
    rw [h45, show ((45 : UInt8).toNat : Int) = 45 from rfl] at i1
    obtain ⟨d, hd⟩ : ∃ d, d = s.extract 1 s.size := ⟨_, rfl⟩
    have hdl := tail_list s
    rw [← hd, ← dl_tail h45'] at hdl
    have he : s.extract 1 s.size = d := hd.symm
    have hdm : d.size ≤ s.size := by rw [hd, ByteArray.size_extract]; omega
    have hds : d.size = (In.dl s.data.toList).length := by rw [← hdl]; simp
    have HVN := Lib.hid (fun (h : d.size = 0) => show V = false from by rw [HV.out]; exact In.v_nil (List.eq_nil_of_length_eq_zero (by rw [← hds]; exact h)))
    have HVL := Lib.hid (fun (h : 200 < d.size) => show V = false from by rw [HV.out]; exact In.v_long (by rw [← hds]; exact h))
    have HVD := Lib.hid (fun (c : UInt8) (hc : c ∈ d.data.toList) (h : In.isDig c = false) => show V = false from by rw [HV.out]; exact In.v_dig (by rw [← hdl]; exact hc) h)
    have hns : s.data.toList ≠ [48] := fun h => by rw [h] at h45'; cases h45'
    have HVA := Lib.hid (fun (h0 : 0 < d.size) (h1 : d.size ≤ 200) (h2 : ∀ c ∈ d.data.toList, In.isDig c = true) => show V = (decide (d.data.toList.head? ≠ some 48) || false) from by
      rw [HV.out, In.v_all (fun h => by rw [hds, h] at h0; cases h0) (by rw [← hds]; exact h1) (by rw [← hdl]; exact h2), ← hdl, decide_eq_false hns])
    have hbd := str_beq d
    cases hB : decide (d.data.toList = [48]) with
    | true =>
      rw [hB] at hbd
      have hz := of_decide_eq_true hB
      have HE := Lib.hid (show V = false from by
        rw [HVA.out (by have : 0 < d.data.toList.length := by rw [hz]; decide
                        simpa using this) (by have : d.data.toList.length ≤ 200 := by rw [hz]; decide
                                              simpa using this) (by rw [hz]; decide), hz]
        rfl)
      clear HVN HVL HVD HVA HV hdl hds hd hz hB hns h45 h45' hh
      go_enter Tryz.func22, Tryz.ntmps22
      go_wp2_with fail
      go_ret
      exact ⟨retv (vbool HE.out.symm), rfl⟩
    | false =>
    rw [hB] at hbd
    clear HV hdl hds hd hB hns h45 h45' hh
    go_enter Tryz.func22, Tryz.ntmps22
    go_wp2_with fail
    go_loopw [3] (fun iv wr => ∃ k : Nat, k ≤ d.size ∧ iv = .int .i64 k ∧ wr = w ∧ ∀ j c, j < k → d.data.toList[j]? = some c → In.isDig c = true) (fun iv _ => d.size - (intOf iv).toNat)
    case atStart => exact ⟨0, Nat.zero_le _, by first | rfl | go_num, rfl, fun j c h => absurd h (Nat.not_lt_zero _)⟩
    case round =>
      obtain ⟨k, hk, rfl, rfl, hall⟩ := hrel
      clear i1
      by_cases hlt : k < d.size
      · have hc := ba_at d k hlt
        have i2 := fun (w : World) => run_index_at (P := Tryz.prog) w 9 d .i64 k rfl hlt
        have HA := Lib.hid hall
        clear hall
        obtain ⟨c, hcc⟩ : ∃ c, c = (d[k]'hlt) := ⟨_, rfl⟩
        rw [← hcc] at hc i2
        have HC := Lib.hid hc
        clear hc hcc
        have HX := Lib.hid (show In.isDig c = (decide (48 ≤ c.toNat) && decide (c.toNat ≤ 57)) from rfl)
        generalize hx : c.toNat = x at *
        clear hx
        by_cases hg : 48 ≤ x ∧ x ≤ 57
        · have HG := Lib.hid (show In.isDig c = true from by rw [HX.out, decide_eq_true hg.1, decide_eq_true hg.2]; rfl)
          obtain ⟨g1, g2⟩ := hg
          have e1 : decide ((x : Int) < 48) = false := by rw [decide_eq_false_iff_not]; omega
          have e2 : decide (57 < (x : Int)) = false := by rw [decide_eq_false_iff_not]; omega
          go_wp2_with fail
          go_roundw
          case rel =>
            refine ⟨k + 1, hlt, by go_num, by first | rfl | trivial, fun j c' hj hc' => ?_⟩
            rcases Nat.lt_or_ge j k with h | h
            · exact HA.out j c' h hc'
            · obtain rfl : j = k := by omega
              rw [HC.out] at hc'
              rw [← Option.some.inj hc']
              exact HG.out
          case measure => simp [intOf]; omega
        · have e : V = false := HVD.out c (List.mem_of_getElem? HC.out) (by
            rw [HX.out]
            by_cases h : 48 ≤ x
            · rw [decide_eq_false (p := x ≤ 57) (by omega), Bool.and_false]
            · rw [decide_eq_false h, Bool.false_and])
          have HE := Lib.hid e
          clear e
          rcases Nat.lt_or_ge x 48 with h | h
          · have e1 : decide ((x : Int) < 48) = true := by rw [decide_eq_true_eq]; omega
            clear hg
            go_wp2_with fail
            go_ret
            exact ⟨retv (vbool HE.out.symm), rfl⟩
          · have h2 : 57 < x := by omega
            have e1 : decide ((x : Int) < 48) = false := by rw [decide_eq_false_iff_not]; omega
            have e2 : decide (57 < (x : Int)) = true := by rw [decide_eq_true_eq]; omega
            clear hg
            go_wp2_with fail
            go_ret
            exact ⟨retv (vbool HE.out.symm), rfl⟩
      · obtain rfl : k = d.size := by omega
        rcases Nat.eq_zero_or_pos d.size with h0 | hp2
        · have HE := Lib.hid (HVN.out h0)
          rw [h0]
          have e0 : ((d.size : Nat) : Int) = 0 := by omega
          clear hall hlt
          go_wp2_with fail
          go_ret
          exact ⟨retv (vbool HE.out.symm), rfl⟩
        · have e0 : decide (0 < (d.size : Int)) = true := by rw [decide_eq_true_eq]; omega
          by_cases hlong : 200 < d.size
          · have HE := Lib.hid (HVL.out hlong)
            have e1 : decide ((d.size : Int) ≤ 200) = false := by rw [decide_eq_false_iff_not]; omega
            clear hall hlt
            go_wp2_with fail
            go_ret
            exact ⟨retv (vbool HE.out.symm), rfl⟩
          · have e1 : decide ((d.size : Int) ≤ 200) = true := by rw [decide_eq_true_eq]; omega
            have HE := Lib.hid (HVA.out hp2 (by omega) (fun c hc => by
              obtain ⟨j, hj⟩ := List.getElem?_of_mem hc
              exact hall j c (by simpa using (List.getElem?_eq_some_iff.1 hj).1) hj))
            have i2 := fun (w : World) => run_index_at (P := Tryz.prog) w 9 d .i64 0 rfl hp2
            rw [show ((0 : Nat) : Int) = 0 from rfl] at i2
            have hcc := ba_at d 0 hp2
            rw [List.head?_eq_getElem?, hcc] at HE
            generalize (d[0]'hp2) = c at *
            have hq : (c.toNat = 48 ∧ decide (some c ≠ some (48 : UInt8)) = false) ∨ (c.toNat ≠ 48 ∧ decide (some c ≠ some (48 : UInt8)) = true) := by
              by_cases h : c = 48
              · exact .inl ⟨by rw [h]; rfl, by rw [h]; decide⟩
              · exact .inr ⟨fun e => h (UInt8.toNat_inj.1 e), decide_eq_true (fun e => h (Option.some.inj e))⟩
            clear hall hlt hcc
            rcases hq with ⟨h1, h2⟩ | ⟨h1, h2⟩
            · rw [h2] at HE
              rw [h1] at i2
              clear h1 h2
              go_wp2_with fail
              go_ret
              exact ⟨retv (vbool HE.out.symm), rfl⟩
            · rw [h2] at HE
              have d1 : ((c.toNat : Int) == 48) = false := by simp; omega
              have d2 : decide ((c.toNat : Int) = 48) = false := by simp; omega
              have d3 : ((c.toNat : Int) != 48) = true := by simp; omega
              generalize c.toNat = x at *
              clear h1 h2
              go_wp2_with fail
              go_ret
              exact ⟨retv (vbool HE.out.symm), rfl⟩
  · have h45' : s.data.toList.head? ≠ some 45 := by rw [hh]; intro h; exact h45 (Option.some.inj h)
    have hdl := dl_same h45'
    have hds : s.size = (In.dl s.data.toList).length := by rw [hdl]; simp
    have HVN := Lib.hid (fun (h : s.size = 0) => show V = false from by rw [HV.out]; exact In.v_nil (List.eq_nil_of_length_eq_zero (by rw [← hds]; exact h)))
    have HVL := Lib.hid (fun (h : 200 < s.size) => show V = false from by rw [HV.out]; exact In.v_long (by rw [← hds]; exact h))
    have HVD := Lib.hid (fun (c : UInt8) (hc : c ∈ s.data.toList) (h : In.isDig c = false) => show V = false from by rw [HV.out]; exact In.v_dig (by rw [hdl]; exact hc) h)
    have HVA := Lib.hid (fun (h0 : 0 < s.size) (h1 : s.size ≤ 200) (h2 : ∀ c ∈ s.data.toList, In.isDig c = true) => show V = (decide (s.data.toList.head? ≠ some 48) || decide (s.data.toList = [48])) from by
      rw [HV.out, In.v_all (fun h => by rw [hds, h] at h0; cases h0) (by rw [← hds]; exact h1) (by rw [hdl]; exact h2), hdl])
    have h46 : ((s[0]'hp).toNat : Int) ≠ 45 := fun h => h45 (UInt8.toNat_inj.1 (show _ = 45 by omega))
    generalize (s[0]'hp).toNat = c0 at *
    have dd : decide ((c0 : Int) = 45) = false := decide_eq_false h46
    have d3 : ((c0 : Int) == 45) = false := by simpa using h46
    generalize decide (s.data.toList = [48]) = B at *
    clear HV hdl hds h45 h45' hh h46
    go_enter Tryz.func22, Tryz.ntmps22
    go_wp2_with fail
    go_loopw [3] (fun iv wr => ∃ k : Nat, k ≤ s.size ∧ iv = .int .i64 k ∧ wr = w ∧ ∀ j c, j < k → s.data.toList[j]? = some c → In.isDig c = true) (fun iv _ => s.size - (intOf iv).toNat)
    case atStart => exact ⟨0, Nat.zero_le _, by first | rfl | go_num, rfl, fun j c h => absurd h (Nat.not_lt_zero _)⟩
    case round =>
      obtain ⟨k, hk, rfl, rfl, hall⟩ := hrel
      clear i1
      by_cases hlt : k < s.size
      · have hc := ba_at s k hlt
        have i2 := fun (w : World) => run_index_at (P := Tryz.prog) w 9 s .i64 k rfl hlt
        have HA := Lib.hid hall
        clear hall
        obtain ⟨c, hcc⟩ : ∃ c, c = (s[k]'hlt) := ⟨_, rfl⟩
        rw [← hcc] at hc i2
        have HC := Lib.hid hc
        clear hc hcc
        have HX := Lib.hid (show In.isDig c = (decide (48 ≤ c.toNat) && decide (c.toNat ≤ 57)) from rfl)
        generalize hx : c.toNat = x at *
        clear hx
        by_cases hg : 48 ≤ x ∧ x ≤ 57
        · have HG := Lib.hid (show In.isDig c = true from by rw [HX.out, decide_eq_true hg.1, decide_eq_true hg.2]; rfl)
          obtain ⟨g1, g2⟩ := hg
          have e1 : decide ((x : Int) < 48) = false := by rw [decide_eq_false_iff_not]; omega
          have e2 : decide (57 < (x : Int)) = false := by rw [decide_eq_false_iff_not]; omega
          go_wp2_with fail
          go_roundw
          case rel =>
            refine ⟨k + 1, hlt, by go_num, by first | rfl | trivial, fun j c' hj hc' => ?_⟩
            rcases Nat.lt_or_ge j k with h | h
            · exact HA.out j c' h hc'
            · obtain rfl : j = k := by omega
              rw [HC.out] at hc'
              rw [← Option.some.inj hc']
              exact HG.out
          case measure => simp [intOf]; omega
        · have e : V = false := HVD.out c (List.mem_of_getElem? HC.out) (by
            rw [HX.out]
            by_cases h : 48 ≤ x
            · rw [decide_eq_false (p := x ≤ 57) (by omega), Bool.and_false]
            · rw [decide_eq_false h, Bool.false_and])
          have HE := Lib.hid e
          clear e
          rcases Nat.lt_or_ge x 48 with h | h
          · have e1 : decide ((x : Int) < 48) = true := by rw [decide_eq_true_eq]; omega
            clear hg
            go_wp2_with fail
            go_ret
            exact ⟨retv (vbool HE.out.symm), rfl⟩
          · have h2 : 57 < x := by omega
            have e1 : decide ((x : Int) < 48) = false := by rw [decide_eq_false_iff_not]; omega
            have e2 : decide (57 < (x : Int)) = true := by rw [decide_eq_true_eq]; omega
            clear hg
            go_wp2_with fail
            go_ret
            exact ⟨retv (vbool HE.out.symm), rfl⟩
      · obtain rfl : k = s.size := by omega
        rcases Nat.eq_zero_or_pos s.size with h0 | hp2
        · have HE := Lib.hid (HVN.out h0)
          rw [h0]
          have e0 : ((s.size : Nat) : Int) = 0 := by omega
          clear hall hlt
          go_wp2_with fail
          go_ret
          exact ⟨retv (vbool HE.out.symm), rfl⟩
        · have e0 : decide (0 < (s.size : Int)) = true := by rw [decide_eq_true_eq]; omega
          by_cases hlong : 200 < s.size
          · have HE := Lib.hid (HVL.out hlong)
            have e1 : decide ((s.size : Int) ≤ 200) = false := by rw [decide_eq_false_iff_not]; omega
            clear hall hlt
            go_wp2_with fail
            go_ret
            exact ⟨retv (vbool HE.out.symm), rfl⟩
          · have e1 : decide ((s.size : Int) ≤ 200) = true := by rw [decide_eq_true_eq]; omega
            have HE := Lib.hid (HVA.out hp2 (by omega) (fun c hc => by
              obtain ⟨j, hj⟩ := List.getElem?_of_mem hc
              exact hall j c (by simpa using (List.getElem?_eq_some_iff.1 hj).1) hj))
            have i2 := fun (w : World) => run_index_at (P := Tryz.prog) w 9 s .i64 0 rfl hp2
            rw [show ((0 : Nat) : Int) = 0 from rfl] at i2
            have hcc := ba_at s 0 hp2
            rw [List.head?_eq_getElem?, hcc] at HE
            generalize (s[0]'hp2) = c at *
            have hq : (c.toNat = 48 ∧ decide (some c ≠ some (48 : UInt8)) = false) ∨ (c.toNat ≠ 48 ∧ decide (some c ≠ some (48 : UInt8)) = true) := by
              by_cases h : c = 48
              · exact .inl ⟨by rw [h]; rfl, by rw [h]; decide⟩
              · exact .inr ⟨fun e => h (UInt8.toNat_inj.1 e), decide_eq_true (fun e => h (Option.some.inj e))⟩
            clear hall hlt hcc
            rcases hq with ⟨h1, h2⟩ | ⟨h1, h2⟩
            · rw [h2] at HE
              rw [h1] at i2
              clear h1 h2
              cases B
              all_goals
                go_wp2_with fail
                go_ret
                exact ⟨retv (vbool HE.out.symm), rfl⟩
            · rw [h2] at HE
              have d1 : ((c.toNat : Int) == 48) = false := by simp; omega
              have d2 : decide ((c.toNat : Int) = 48) = false := by simp; omega
              have d3 : ((c.toNat : Int) != 48) = true := by simp; omega
              generalize c.toNat = x at *
              clear h1 h2
              cases B
              all_goals
                go_wp2_with fail
                go_ret
                exact ⟨retv (vbool HE.out.symm), rfl⟩
end Go.Proofs.YtjhnfejlkljkjaaGreatDoor
