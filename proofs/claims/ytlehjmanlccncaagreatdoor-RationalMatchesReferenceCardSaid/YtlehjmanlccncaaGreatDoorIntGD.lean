/- Natural numbers in groups: printing. -/
/- Integers as strings: Valid, parse, read. -/
/- The reference implementation: trim, text, Made. -/
import Derived.Test.YtlehjmanlccncaaGreatDoorIntGC
import Derived.Test.YtlehjmanlccncaaGreatDoorShelf
import Derived.Lib.SmallJoins
import Derived.Test.YtlehjmanlccncaaGreatDoorIntGA
set_option linter.unusedVariables false
set_option linter.unusedSimpArgs false
namespace Go.Proofs.YtlehjmanlccncaaGreatDoor
open Go.RowKit

abbrev TabI (w : World) : Prop := Lib.TabIs Tryz.prog w "internal/strconv.uint64pow10" .u64 Lib.pow10Tab
theorem gTabI : Tryz.prog.globalNamed "internal/strconv.uint64pow10" = some 1 := by kernel_rfl
theorem TabI.next {w w' : World} (h : TabI w) (hb : Below w.heap.size w w') : TabI w' := Go.Joins.tab_stays gTabI h hb (Nat.le_refl _)
abbrev decB (n : Nat) : ByteArray := ⟨(Lib.decDigits n).toArray⟩
theorem decB_size (n : Nat) : (decB n).size = (Lib.decDigits n).length := by simp [ByteArray.size]
theorem decB_list (n : Nat) : (decB n).data.toList = Lib.decDigits n := by simp
theorem decB_lt {n k : Nat} (hk : 1 ≤ k) (h : n < 10 ^ k) : (decB n).size ≤ k := by rw [decB_size]; exact (In.dec_len_le hk).2 h
theorem decB_pos (n : Nat) : 0 < (decB n).size := by rw [decB_size]; exact List.length_pos_iff.2 (In.dec_ne n)
theorem below_grown (w : World) (k : Nat) (os : Array Obj) : Below w.heap.size w (Go.Sort.grow (w.drewN k) os) :=
  (below_drewN (Below.refl _ _) k).trans ⟨rfl, rfl, rfl, by show w.heap.size ≤ _; rw [Go.Sort.size_grow]; exact Nat.le_add_right _ _, fun b hb => Go.Sort.heap_grow_old _ _ hb⟩
theorem itoa_nat (x : Nat) (hx : x ≤ 9223372036854775807) (w : World) (ht : TabI w) : Calls Tryz.prog 94 #[.int .i64 x] w fun e w' => e = .returned (.string (decB x)) ∧ Below w.heap.size w w' := by
  refine (Tryz.strconv_Itoa x (by omega) (by omega) w ht).mono ?_
  rintro e w' ⟨rfl, k, os, rfl⟩
  refine ⟨?_, below_grown _ _ _⟩
  have h : Lib.itoa (x : Int) = Lib.decDigits x := by
    unfold Lib.itoa
    rw [if_neg (by omega), Int.toNat_natCast]
  rw [h]
theorem repeat0 (c : Nat) (w : World) (hc : c ≤ 100) : Calls Tryz.prog 83 #[.string ⟨#[48]⟩, .int .i64 c] w fun e w' => e = .returned (.string ⟨(List.replicate c 48).toArray⟩) ∧ Below w.heap.size w w' := by
  have h : ∀ c, Lib.repeatL [48] c = List.replicate c 48 := by
    intro c
    induction c with
    | zero => rfl
    | succ c ih => rw [Lib.repeatL, ih]; rfl
  have := Tryz.strings_Repeat ⟨#[48]⟩ c w (by omega) (by show 1 * c ≤ _; omega)
  rw [h c] at this
  exact this
theorem ba_ext {a b : ByteArray} (h : a.data.toList = b.data.toList) : a = b := by
  cases a; cases b
  congr 1
  exact Array.toList_inj.1 h
theorem ba_append (a b : ByteArray) : (a ++ b).data.toList = a.data.toList ++ b.data.toList := by simp
set_option maxRecDepth 100000 in
set_option maxHeartbeats 2000000 in
theorem print_nat (u : Value) (n : Nat) (w : World) (hu : NSl w u n) (la : (In.gs n).length ≤ 700) (ht : TabI w) :
    Calls Tryz.prog 105 #[u] w fun e w' => e = .returned (.string (decB n)) ∧ Below w.heap.size w w' := by
  obtain ⟨o, c, rfl, a1, a2, a3, a4⟩ := hu.ex
  obtain ⟨L, hL⟩ : ∃ L, (In.gs n).length = L := ⟨_, rfl⟩
  rw [hL] at la a1 ⊢
  have HA := Lib.hid a4
  have HL := Lib.hid hL
  have HT := Lib.hid ht
  have HP := Lib.hid (show n < 10000 ^ L from by rw [← hL]; exact In.gs_lt_pow n)
  clear a4 hu ht hL
  by_cases hL0 : L = 0
  · subst hL0
    have h0 : n = 0 := In.gs_nil.1 HL.out
    have hd : decB n = ⟨#[48]⟩ := by rw [h0]; rw [decB, In.dec_zero]
    rw [hd]
    clear h0 hd
    go_enter Tryz.func105, Tryz.ntmps105
    go_wp2_with fail
    go_ret
    exact ⟨rfl, Below.refl _ _⟩
  · obtain ⟨K, rfl⟩ : ∃ K, L = K + 1 := ⟨L - 1, by omega⟩
    have hx := In.gs_at (n := n) (i := K) (by rw [HL.out]; omega)
    have lx : n / 10000 ^ K % 10000 < 10000 := Nat.mod_lt _ (by decide)
    have hX : n / 10000 ^ K % 10000 = n / 10000 ^ K := Nat.mod_eq_of_lt ((Nat.div_lt_iff_lt_mul (Nat.pow_pos (by decide))).2 (by rw [← Nat.pow_succ']; exact HP.out))
    have HX := Lib.hid hX
    clear hX
    generalize hx0 : n / 10000 ^ K % 10000 = x at *
    have HX0 := Lib.hid hx0
    clear hx0
    rcases HA.out with h | ⟨p, off, rfl, hp, hcell⟩
    · rw [h] at hx; simp at hx
    have c1 := hcell K x hx
    have HC := Lib.hid hcell
    clear hx hcell
    have HCI := Lib.hid (itoa_nat x (by omega) w HT.out)
    have d0 : (((K + 1 : Nat) : Int) == 0) = false := by simp; omega
    go_enter Tryz.func105, Tryz.ntmps105
    go_upto_region 3 with (fail)
    have e1 : ((K + 1 : Nat) : Int) - 1 = (K : Int) := by omega
    go_wp2_with fail
    refine Calls.mono HCI.out ?_
    rintro e wa ⟨rfl, hb⟩
    have HBA := Lib.hid hb
    clear hb e1 c1 HCI
    have e2 : ((K + 1 : Nat) : Int) - 2 = (K : Int) - 1 := by omega
    have HD := Lib.hid (show x = n / 10000 ^ K from HX.out)
    go_wp2_with fail
    go_loopw [3, 4] (fun sv iv wr => ∃ k : Nat, sv = .string (decB (n / 10000 ^ k)) ∧ iv = .int .i64 ((k : Int) - 1) ∧ k ≤ K ∧ Below w.heap.size w wr) (fun _ iv _ => (intOf iv + 1).toNat)
    case atStart => exact ⟨K, by rw [HD.out], by first | rfl | go_num, Nat.le_refl _, HBA.out⟩
    case round =>
      clear e2 HBA
      obtain ⟨k, rfl, rfl, hk, hB⟩ := hrel
      have HB := Lib.hid hB
      clear hB
      cases k with
      | zero =>
        rw [Nat.pow_zero, Nat.div_one, show ((0 : Nat) : Int) - 1 = -1 from rfl]
        go_wp2_with fail
        go_ret
        exact ⟨rfl, HB.out⟩
      | succ m =>
        rw [show ((m + 1 : Nat) : Int) - 1 = (m : Int) by omega]
        have hx := In.gs_at (n := n) (i := m) (by rw [HL.out]; omega)
        have ly : n / 10000 ^ m % 10000 < 10000 := Nat.mod_lt _ (by decide)
        have HN := Lib.hid (In.print_next (In.gs_high (n := n) (i := m + 1) (by rw [HL.out]; omega)))
        have HLE := Lib.hid (show (decB (n / 10000 ^ (m + 1))).size ≤ 4 * (K + 1) from decB_lt (by omega) (by
          have h1 := HP.out
          rw [show (10 : Nat) ^ (4 * (K + 1)) = 10000 ^ (K + 1) from by rw [Nat.pow_mul]]
          exact Nat.lt_of_le_of_lt (Nat.div_le_self _ _) h1))
        generalize n / 10000 ^ m % 10000 = y at *
        have c1 := (HB.out.cell (p := ⟨p, off + m, none⟩) hp).trans (HC.out m y hx)
        have HCI := Lib.hid (itoa_nat y (by omega) wr (by exact TabI.next HT.out HB.out))
        have lsz : (decB y).size ≤ 4 := decB_lt (by omega) ly
        have hsz := decB_size y
        have HY := Lib.hid (show (In.pad4 y) = List.replicate (4 - (decB y).size) 48 ++ (decB y).data.toList from by rw [decB_list, decB_size]; rfl)
        have hS := HLE.out
        have hbm : (decB (n / 10000 ^ (m + 1))).data.toList = Lib.decDigits (n / 10000 ^ (m + 1)) := decB_list _
        have HBM := Lib.hid hbm
        clear hbm hx hsz
        generalize decB (n / 10000 ^ (m + 1)) = S at *
        generalize decB y = G at *
        obtain ⟨q, hq⟩ : ∃ q : Nat, q = 4 - G.size := ⟨_, rfl⟩
        have hqI : (4 : Int) - (G.size : Int) = (q : Int) := by omega
        have HQ := Lib.hid hq
        have hq4 : q ≤ 4 := by omega
        clear hq
        go_upto_region 8 with (go_at_call 94; with_reducible refine Calls.mono HCI.out ?_; rintro e wa ⟨rfl, hb⟩; have HA1 := Lib.hid (Below.andThen HB.out hb); clear hb)
        have CR := Lib.hid (repeat0 q wa (by omega))
        have hRs : ByteArray.size ⟨(List.replicate q (48 : UInt8)).toArray⟩ = q := by
          show (List.replicate q (48 : UInt8)).toArray.size = q
          rw [List.size_toArray, List.length_replicate]
        have m1 : ¬ 9223372036854775807 < 1 + ByteArray.size ⟨(List.replicate q (48 : UInt8)).toArray⟩ + G.size := by rw [hRs]; omega
        have m2 : ¬ 9223372036854775807 < 1 + S.size + (ByteArray.size ⟨(List.replicate q (48 : UInt8)).toArray⟩ + G.size) := by rw [hRs]; omega
        clear hRs
        generalize hR : (⟨(List.replicate q (48 : UInt8)).toArray⟩ : ByteArray) = R at *
        have HR := Lib.hid hR
        clear hR
        go_wp2_with (go_at_call 83; with_reducible refine Calls.mono CR.out ?_; rintro e wb ⟨rfl, hb⟩; have HB1 := Lib.hid (Below.andThen HA1.out hb); clear hb)
        refine ⟨⟨m, ?_, by first | rfl | go_num, by omega, HB1.out⟩, by simp [intOf]⟩
        congr 1
        apply ba_ext
        rw [ba_append, ba_append, HBM.out, decB_list, HN.out, HY.out, ← HR.out, HQ.out]
end Go.Proofs.YtlehjmanlccncaaGreatDoor
set_option linter.unusedVariables false
set_option linter.unusedSimpArgs false
namespace Go.Proofs.YtlehjmanlccncaaGreatDoor
open Go.RowKit

namespace In
/-- without a sign -/
def dl (l : List UInt8) : List UInt8 := if l.head? = some 45 then l.tail else l
theorem trim_dash (l : List UInt8) : Lib.trimPrefix l [45] = dl l := by
  unfold Lib.trimPrefix Lib.hasPrefix dl
  cases l with
  | nil => rfl
  | cons c r =>
    rw [List.head?_cons]
    by_cases h : c = 45
    · subst h; rfl
    · rw [if_neg (by simp [List.isPrefixOf]; exact fun e => h e.symm), if_neg (by simpa using h)]
theorem v_nil {l : List UInt8} (h : dl l = []) : validL l = false := by
  unfold dl at h
  unfold validL
  dsimp only
  rw [h]
  rfl
theorem v_long {l : List UInt8} (h : 200 < (dl l).length) : validL l = false := by
  unfold dl at h
  unfold validL
  dsimp only
  rw [decide_eq_false (p := (if l.head? = some 45 then l.tail else l).length ≤ 200) (by omega)]
  simp
theorem v_dig {l : List UInt8} {c : UInt8} (hc : c ∈ dl l) (h : isDig c = false) : validL l = false := by
  unfold dl at hc
  unfold validL
  dsimp only
  have : (if l.head? = some 45 then l.tail else l).all isDig = false := by
    rw [List.all_eq_false]
    exact ⟨c, hc, by rw [h]; simp⟩
  rw [this]
  simp
theorem v_all {l : List UInt8} (h0 : dl l ≠ []) (h1 : (dl l).length ≤ 200) (h2 : ∀ c ∈ dl l, isDig c = true) : validL l = (decide ((dl l).head? ≠ some 48) || decide (l = [48])) := by
  unfold dl at h0 h1 h2 ⊢
  unfold validL
  dsimp only
  rw [decide_eq_true h0, decide_eq_true h1, List.all_eq_true.2 h2]
  simp
theorem v_digs {l : List UInt8} (h : validL l = true) : (∀ c ∈ dl l, isDig c = true) ∧ (dl l).length ≤ 200 := by
  unfold validL at h
  dsimp only at h
  simp only [Bool.and_eq_true, List.all_eq_true, decide_eq_true_eq] at h
  unfold dl
  exact ⟨h.1.2, h.1.1.2⟩
/-- the sign of a valid string -/
theorem v_neg {l : List UInt8} (h : validL l = true) : neg (valL l) = decide (l.head? = some 45) ∧ (valL l).natAbs = val10 (dl l) := by
  obtain ⟨h1, h2⟩ := valid_val h
  constructor
  · unfold neg
    by_cases hz : valL l < 0
    · have : l.head? = some 45 := by
        rw [h1]
        unfold txtL Lib.itoa
        rw [if_pos hz]
        rfl
      rw [decide_eq_true hz, decide_eq_true this]
    · have : l.head? ≠ some 45 := by
        rw [h1]
        unfold txtL Lib.itoa
        rw [if_neg hz]
        exact head_dec _
      rw [decide_eq_false hz, decide_eq_false this]
  · unfold valL dl
    split
    · omega
    · omega
end In
theorem run_index_at {P : Program} (w : World) (t : TypeId) (s : ByteArray) (k : IntKind) (i : Nat) (h : P.underlying t = some .string) (hi : i < s.size) :
    (Instr.index t (.string s) (.int k (i : Int))).run P w = .ok (.int .u8 (s[i]'hi).toNat) w := by
  rw [run_index_string w t s k i h, dif_pos (by omega)]
  rfl
/-- a valid integer as the program holds it -/
def NumV (w : World) (v : Value) (z : Int) : Prop := ∃ s, v = .agg #[s, .bool (In.neg z)] ∧ NSl w s z.natAbs
theorem NumV.next {w w' : World} {v : Value} {z : Int} (h : NumV w v z) (hb : Below w.heap.size w w') : NumV w' v z := by
  obtain ⟨s, rfl, h⟩ := h
  exact ⟨s, rfl, h.next hb⟩
theorem dash_any (s : ByteArray) (w : World) : Calls Tryz.prog 88 #[.string s, .string ⟨#[45]⟩] w fun e w' => e = .returned (.string ⟨(In.dl s.data.toList).toArray⟩) ∧ w = w' := by
  have := Tryz.strings_TrimPrefix s ⟨#[45]⟩ w
  rw [show (⟨#[45]⟩ : ByteArray).data.toList = [45] from rfl, In.trim_dash] at this
  exact this.mono fun _ _ h => ⟨h.1, h.2.symm⟩

set_option maxRecDepth 100000 in
set_option maxHeartbeats 2000000 in
theorem valid_any (s : ByteArray) (w : World) : Calls Tryz.prog 57 #[.string s] w fun e w' => e = .returned (.bool (In.validL s.data.toList)) ∧ w = w' := by
  obtain ⟨V, hV⟩ : ∃ V, V = In.validL s.data.toList := ⟨_, rfl⟩
  rw [← hV]
  have CD := Lib.hid (dash_any s w)
  obtain ⟨d, hd⟩ : ∃ d : ByteArray, d = ⟨(In.dl s.data.toList).toArray⟩ := ⟨_, rfl⟩
  have hdl : d.data.toList = In.dl s.data.toList := by rw [hd]
  have hds : d.size = (In.dl s.data.toList).length := by rw [← hdl]; simp
  rw [← hd] at CD
  have HDL := Lib.hid hdl
  have HV := Lib.hid hV
  clear hd hdl hV
  by_cases h0 : d.size = 0
  · have e : V = false := by rw [HV.out]; exact In.v_nil (List.eq_nil_of_length_eq_zero (by rw [← hds]; exact h0))
    subst e
    have d0 : ((d.size : Int) == 0) = true := by simp [h0]
    clear HV hds
    go_enter Tryz.func57, Tryz.ntmps57
    go_wp2_with (go_at_call 88; refine Calls.mono CD.out ?_; rintro e w' ⟨rfl, rfl⟩)
    go_ret
    exact ⟨rfl, rfl⟩
  have d0 : ((d.size : Int) == 0) = false := by rw [beq_eq_false_iff_ne]; omega
  by_cases h1 : 200 < d.size
  · have e : V = false := by rw [HV.out]; exact In.v_long (by rw [← hds]; exact h1)
    subst e
    clear HV hds
    go_enter Tryz.func57, Tryz.ntmps57
    go_wp2_with (go_at_call 88; refine Calls.mono CD.out ?_; rintro e w' ⟨rfl, rfl⟩)
    go_ret
    exact ⟨rfl, rfl⟩
  have HDS := Lib.hid hds
  clear hds
  go_enter Tryz.func57, Tryz.ntmps57
  go_wp2_with (go_at_call 88; refine Calls.mono CD.out ?_; rintro e w' ⟨rfl, rfl⟩)
  go_loopw [17] (fun iv wr => ∃ k : Nat, k ≤ d.size ∧ iv = .int .i64 k ∧ wr = w ∧ ∀ j c, j < k → d.data.toList[j]? = some c → In.isDig c = true) (fun iv _ => d.size - (intOf iv).toNat)
  case atStart => exact ⟨0, Nat.zero_le _, rfl, rfl, fun j c h => absurd h (Nat.not_lt_zero _)⟩
  case round =>
    obtain ⟨k, hk, rfl, rfl, hall⟩ := hrel
    by_cases hlt : k < d.size
    · have hc := ba_at d k hlt
      have i1 := fun (w : World) => run_index_at (P := Tryz.prog) w 9 d .i64 k rfl hlt
      have HA := Lib.hid hall
      clear hall
      obtain ⟨c, hcc⟩ : ∃ c, c = (d[k]'hlt) := ⟨_, rfl⟩
      rw [← hcc] at hc i1
      have HC := Lib.hid hc
      clear hc hcc
      have HX := Lib.hid (show In.isDig c = (decide (48 ≤ c.toNat) && decide (c.toNat ≤ 57)) from rfl)
      generalize hx : c.toNat = x at *
      clear hx
      by_cases hg : 48 ≤ x ∧ x ≤ 57
      · have HG := Lib.hid (show In.isDig c = true from by rw [HX.out, decide_eq_true hg.1, decide_eq_true hg.2]; rfl)
        obtain ⟨g1, g2⟩ := hg
        go_wp2_with fail
        go_roundw
        case rel =>
          refine ⟨k + 1, hlt, by go_num, by first | rfl | trivial, fun j c' hj hc' => ?_⟩
          rcases Nat.lt_or_ge j k with h | h
          · exact HA.out j c' h hc'
          · obtain rfl : j = k := by omega
            rw [HC.out] at hc'
            rw [← Option.some.inj hc']
            exact HG.out
        case measure => simp [intOf]; omega
      · have e : V = false := by
          rw [HV.out]
          refine In.v_dig (c := c) (by rw [← HDL.out]; exact List.mem_of_getElem? HC.out) ?_
          rw [HX.out]
          by_cases h : 48 ≤ x
          · rw [decide_eq_false (p := x ≤ 57) (by omega), Bool.and_false]
          · rw [decide_eq_false h, Bool.false_and]
        subst e
        rcases Nat.lt_or_ge x 48 with h | h
        · clear hg
          go_wp2_with fail
          go_ret
          first | exact ⟨rfl, rfl⟩ | exact ⟨trivial, rfl⟩ | exact trivial
        · have h2 : 57 < x := by omega
          clear hg
          go_wp2_with fail
          go_ret
          first | exact ⟨rfl, rfl⟩ | exact ⟨trivial, rfl⟩ | exact trivial
    · obtain rfl : k = d.size := by omega
      have hV2 : V = (decide ((In.dl s.data.toList).head? ≠ some 48) || decide (s.data.toList = [48])) := by
        rw [HV.out]
        refine In.v_all (fun h => h0 (by rw [HDS.out, h]; rfl)) (by rw [← HDS.out]; omega) (fun c hc => ?_)
        rw [← HDL.out] at hc
        obtain ⟨j, hj⟩ := List.getElem?_of_mem hc
        exact hall j c (by simpa using (List.getElem?_eq_some_iff.1 hj).1) hj
      have hp : 0 < d.size := by omega
      have hc := ba_at d 0 hp
      have i1 := fun (w : World) => run_index_at (P := Tryz.prog) w 9 d .i64 0 rfl hp
      rw [show ((0 : Nat) : Int) = 0 from rfl] at i1
      rw [← HDL.out, List.head?_eq_getElem?, hc] at hV2
      have HV2 := Lib.hid hV2
      clear hall hV2 hc
      have hsl : (s.toList == ([48] : List UInt8)) = decide (s.data.toList = [48]) := by rw [ByteArray.toList_eq, Bool.eq_iff_iff]; simp
      generalize decide (s.data.toList = [48]) = B at *
      generalize (d[0]'hp) = c at *
      by_cases hx : c.toNat = 48
      · obtain rfl : c = 48 := UInt8.toNat_inj.1 hx
        have e : V = B := by rw [HV2.out]; simp
        subst e
        clear hx
        have e48 : (48 : UInt8).toNat = 48 := rfl
        rw [e48] at i1
        go_wp2_with fail
        go_ret
        exact ⟨rfl, rfl⟩
      · have e : V = true := by
          rw [HV2.out, decide_eq_true (p := some c ≠ some 48) (fun h => hx (by rw [Option.some.inj h]; rfl))]
          rfl
        subst e
        clear HV2 HV HDL HDS
        generalize c.toNat = x at *
        have d1 : ((x : Int) == 48) = false := by simp; omega
        have d2 : decide ((x : Int) = 48) = false := by simp; omega
        have d3 : ((x : Int) != 48) = true := by simp; omega
        clear hx
        go_wp2_with fail
        go_ret
        exact ⟨rfl, rfl⟩
end Go.Proofs.YtlehjmanlccncaaGreatDoor
set_option linter.unusedVariables false
set_option linter.unusedSimpArgs false
namespace Go.Proofs.YtlehjmanlccncaaGreatDoor
open Go.RowKit

/-- a slice holds the decimal digits of a natural number -/
structure DSl (w : World) (v : Value) (n : Nat) : Prop where
  ex : ∃ o c, v = .slice o (In.dg n).length c ∧ (In.dg n).length ≤ c ∧ c ≤ 9223372036854775807 ∧ (o = none → c = 0) ∧ LSl w o (In.dg n)
theorem DSl.next {w w' : World} {v : Value} {n : Nat} (h : DSl w v n) (hb : Below w.heap.size w w') : DSl w' v n := by
  obtain ⟨o, c, rfl, h1, h2, h3, h4⟩ := h.ex
  exact ⟨o, c, rfl, h1, h2, h3, h4.next hb⟩
theorem DSl.mk' {w : World} {o : Option Addr} {c n L : Nat} (hL : (In.dg n).length = L) (h1 : L ≤ c) (h2 : c ≤ 9223372036854775807) (h3 : o = none → c = 0) (h4 : LSl w o (In.dg n)) : DSl w (.slice o L c) n := by
  subst hL
  exact ⟨o, c, rfl, h1, h2, h3, h4⟩
theorem dsl_zero (w : World) : DSl w (.slice none 0 0) 0 := ⟨none, 0, rfl, Nat.le_refl _, by decide, fun _ => rfl, .inl rfl⟩

set_option maxRecDepth 100000 in
set_option maxHeartbeats 1000000 in
theorem rtrim_any (o : Option Addr) (L c : Nat) (l : List Nat) (w : World) (hL : l.length = L) (hl : ∀ x ∈ l, x < 10) (hc : L ≤ c) (hc2 : c ≤ 9223372036854775807) (ho : o = none → c = 0) (hS : LSl w o l) :
    Calls Tryz.prog 101 #[.slice o L c] w fun e w' => ∃ k, e = .returned (.slice o k c) ∧ DSl w' (.slice o k c) (In.nv 10 l) ∧ Below w.heap.size w w' := by
  have HS := Lib.hid hS
  have HL := Lib.hid hL
  have HX := Lib.hid hl
  clear hS hL hl
  go_enter Tryz.func101, Tryz.ntmps101
  go_wp2
  go_loopw [0] (fun v wr => ∃ k, v = .slice o k c ∧ k ≤ L ∧ (∀ j x, k ≤ j → l[j]? = some x → x = 0) ∧ Below w.heap.size w wr) (fun v _ => match v with | .slice _ n _ => n | _ => 0)
  case atStart => exact ⟨L, rfl, Nat.le_refl _, fun j x hj hx => by
    have := (List.getElem?_eq_some_iff.1 hx).1
    rw [HL.out] at this
    omega, Below.refl _ _⟩
  case round =>
    obtain ⟨k, rfl, hk, hz, hB⟩ := hrel
    have HZ := Lib.hid hz
    have HB := Lib.hid hB
    clear hz hB
    by_cases h0 : k = 0
    · subst h0
      have HN := Lib.hid (show DSl wr (.slice o 0 c) (In.nv 10 l) from by
        have e := In.dg_trim HX.out (by omega) HZ.out (.inl rfl)
        rw [List.take_zero] at e
        exact DSl.mk' (by rw [e]; rfl) (by omega) hc2 ho (by rw [e]; exact .inl rfl))
      go_wp2
      go_ret
      exact ⟨_, rfl, HN.out, HB.out⟩
    · obtain ⟨m, rfl⟩ : ∃ m, k = m + 1 := ⟨k - 1, by omega⟩
      obtain ⟨x, hx⟩ : ∃ x, l[m]? = some x := ⟨_, List.getElem?_eq_getElem (by rw [HL.out]; omega)⟩
      have HXX := Lib.hid hx
      rcases (HS.out.next HB.out) with h | ⟨b, off, rfl, hb, hcell⟩
      · rw [h] at hx; simp at hx
      have c1 := hcell m x hx
      clear hx hcell
      by_cases hx0 : x = 0
      · have HZ2 := Lib.hid (show ∀ j y, m ≤ j → l[j]? = some y → y = 0 from fun j y hj hy => by
          rcases Nat.lt_or_ge m j with h | h
          · exact HZ.out j y h hy
          · obtain rfl : j = m := by omega
            rw [HXX.out] at hy
            rw [← Option.some.inj hy, hx0])
        subst hx0
        go_wp2_with fail
        refine ⟨⟨m, rfl, by omega, HZ2.out, HB.out⟩, by simp⟩
      · have HN := Lib.hid (show DSl wr (.slice (some ⟨b, off, none⟩) (m + 1) c) (In.nv 10 l) from by
          have e := In.dg_trim (k := m + 1) HX.out (by rw [HL.out]; exact hk) HZ.out (.inr ⟨x, HXX.out, hx0⟩)
          exact DSl.mk' (by rw [e, List.length_take, HL.out]; omega) (by omega) hc2 (fun h => by cases h) (by rw [e]; exact (HS.out.next HB.out).take _))
        have d1 : decide ((x : Int) = 0) = false := by simp; omega
        have d2 : ((x : Int) == 0) = false := by simp; omega
        go_wp2_with fail
        go_ret
        exact ⟨_, rfl, HN.out, HB.out⟩

abbrev byteV (x : UInt8) : Value := .int .u8 x.toNat
theorem infoByte : (Tryz.prog.info? 5).map (fun i => (i.zero, i.size, i.bytes)) = some (some (.int .u8 0), 1, 1) := by kernel_rfl
theorem cells_new (w : World) (C : List Value) (t : TypeId) : ∀ j u, C[j]? = some u → (w.alloc (.cells C.toArray t)).cell? ((⟨w.heap.size, 0, none⟩ : Addr).add j) = some u := by
  intro j u hj
  have e : Addr.add ⟨w.heap.size, 0, none⟩ j = ⟨w.heap.size, j, none⟩ := by unfold Addr.add; split <;> simp_all
  rw [e, (Row.new w t C).cell j]
  exact hj
theorem own_is {W : World} {b n m : Nat} {e : TypeId} {size : Nat} {v : Value} {xs ys : List Value} (h : W.ownsRow b e size v n xs) (hn : n = m) (hx : xs = ys) : W.ownsRow b e size v m ys := by subst hn hx; exact h
theorem conv_own {w : World} {B n : Nat} {v : Value} {l : List UInt8} (h : w.ownsRow B 5 1 v n (l.map byteV)) (hl : l.length = n) (h0 : l ≠ []) :
    ∃ o c, v = .slice o n c ∧ (convert 48 9 (.slice o n c)).run Tryz.prog w = .ok (.string ⟨l.toArray⟩) w := by
  subst hl
  have h' := h
  rcases h.2 with ⟨_, h1⟩ | ⟨g, cap, cur, rfl, _⟩
  · exact absurd (List.eq_nil_of_length_eq_zero h1) h0
  · refine ⟨_, cap, rfl, run_convert_bytes_back w 48 9 5 ⟨g, 0, none⟩ cap l Tryz.underlying48 Tryz.underlying5 Tryz.underlying9 fun j hj => ?_⟩
    exact h'.cells (g := g) rfl j _ (by rw [List.getElem?_map, List.getElem?_eq_getElem hj]; rfl)
abbrev chr (d : Nat) : UInt8 := UInt8.ofNat (48 + d)
abbrev preL (s : Bool) : List UInt8 := if s = true then [45] else []
theorem txt_sgn {n : Nat} (s : Bool) (h : n ≠ 0) : In.txtL (In.sgn n s) = preL s ++ ((In.dg n).map chr).reverse := by
  rw [← In.dg_dec n h]
  unfold In.txtL Lib.itoa
  cases s
  · rw [show In.sgn n false = (n : Int) from rfl, if_neg (by omega), Int.toNat_natCast]
    rfl
  · rw [show In.sgn n true = -(n : Int) from rfl, if_pos (by omega), Int.natAbs_neg, Int.natAbs_natCast]
    rfl
set_option maxRecDepth 100000 in
set_option maxHeartbeats 2000000 in
theorem rtext_any (u : Value) (n : Nat) (s : Bool) (w : World) (hu : DSl w u n) (hl : (In.dg n).length ≤ 1000) :
    Calls Tryz.prog 70 #[.bool s, u] w fun e w' => e = .returned (.tuple #[.string (In.txt (In.sgn n s)), .bool (decide ((In.dg n).length ≤ 200))]) ∧ Below w.heap.size w w' := by
  obtain ⟨o, c, rfl, a1, a2, a3, a4⟩ := hu.ex
  obtain ⟨i0, hi, hz0, hz1, hz2⟩ := info_parts infoByte
  by_cases h0 : n = 0
  · subst h0
    have e0 : (In.dg 0).length = 0 := rfl
    have et : In.txt (In.sgn 0 s) = ⟨#[48]⟩ := by
      have : In.sgn 0 s = 0 := by unfold In.sgn; split <;> rfl
      rw [this]
      apply ba_ext
      rw [In.txt_list]
      unfold In.txtL Lib.itoa
      rw [if_neg (by decide)]
      exact In.dec_zero
    rw [et, e0, decide_eq_true (by decide)]
    clear hu a4 a1 e0 et hl
    go_enter Tryz.func70, Tryz.ntmps70
    go_wp2_with fail
    go_ret2
    exact ⟨rfl, Below.refl _ _⟩
  obtain ⟨L, hL⟩ : ∃ L, (In.dg n).length = L := ⟨_, rfl⟩
  obtain ⟨D, hD⟩ : ∃ D, D = ((In.dg n).map chr).reverse := ⟨_, rfl⟩
  have hDL : D.length = L := by rw [hD, List.length_reverse, List.length_map, hL]
  have hT := txt_sgn s h0
  rw [← hD] at hT
  have HT := Lib.hid hT
  have HD := Lib.hid (And.intro hD hDL)
  have HA := Lib.hid a4
  have HL := Lib.hid hL
  have hLp : 0 < L := by
    rcases Nat.eq_zero_or_pos L with h | h
    · exact absurd (In.dg_nil.1 (by rw [hL, h])) h0
    · exact h
  rw [hL] at hl a1 ⊢
  have d0 : ((L : Int) == 0) = false := by rw [beq_eq_false_iff_ne]; omega
  obtain ⟨S, hS⟩ : ∃ S, S = In.txt (In.sgn n s) := ⟨_, rfl⟩
  rw [← hS]
  have HSS := Lib.hid hS
  obtain ⟨B2, hB2⟩ : ∃ B, B = decide (L ≤ 200) := ⟨_, rfl⟩
  rw [← hB2]
  have HB2 := Lib.hid hB2
  clear hu a4 hL hD hDL hT hS hB2
  go_enter Tryz.func70, Tryz.ntmps70
  go_upto_if 11 with (fail)
  go_cut [6] (fun v wx => wx.ownsRow w.heap.size 5 1 v (preL s).length ((preL s).map byteV) ∧ Below w.heap.size w wx)
  case first =>
    cases s
    · go_wp2_with fail
      go_meet
      exact ⟨World.ownsRow_nil _ _ _ _, Below.refl _ _⟩
    · go_wp2_with (at_builtin; refine wpList_append_own _ rfl _ _ 48 rfl w.heap.size 5 i0 (.int .u8 0) 1 1 Tryz.underlying48 hi hz0 hz1 hz2 rfl (by decide) (.slice none 0 0) 0 [] rfl (World.ownsRow_nil _ _ _ _) ⟨w.heap.size, 0, none⟩ 1 1 [.int .u8 45] rfl rfl (cells_new _ _ _) (by simp [Value.oneCell']) (by unfold maxLen; omega) (by omega) (by simp) ?_; intro v' w1 hown' hgrow _; have K := Lib.hid (And.intro hown' hgrow); clear hown' hgrow)
      go_meet
      exact ⟨own_is K.out.1 rfl rfl, ((Below.refl _ _).alloc (Nat.le_refl _) _).grown K.out.2 (by simp) (fun k hk => by cases hk)⟩
  obtain ⟨hown, hB0⟩ := hcut
  rename World => wc
  have HO := Lib.hid (And.intro hown hB0)
  clear hown hB0
  have e1 : (L : Int) - 1 = ((L - 1 : Nat) : Int) := by omega
  go_wp2_with fail
  clear e1
  go_loopw [6, 7] (fun v iv wr => ∃ k : Nat, k ≤ L ∧ iv = .int .i64 ((k : Int) - 1) ∧ wr.ownsRow w.heap.size 5 1 v (preL s ++ D.take (L - k)).length ((preL s ++ D.take (L - k)).map byteV) ∧ Below w.heap.size w wr) (fun _ iv _ => (intOf iv + 1).toNat)
  case atStart => exact ⟨L, Nat.le_refl _, by first | rfl | go_num, by rw [Nat.sub_self, List.take_zero, List.append_nil]; exact HO.out.1, HO.out.2⟩
  case round =>
    obtain ⟨k, hk, rfl, hrow, hB⟩ := hrel
    clear HO
    cases k with
    | zero =>
      rw [show ((0 : Nat) : Int) - 1 = -1 from rfl]
      rw [Nat.sub_zero, List.take_of_length_le (by rw [HD.out.2]; exact Nat.le_refl _), ← HT.out] at hrow
      obtain ⟨ov, cv, rfl, hcv⟩ := conv_own hrow rfl (by rw [HT.out]; intro h; have := congrArg List.length h; rw [List.length_append, HD.out.2] at this; simp at this; omega)
      rw [show (⟨(In.txtL (In.sgn n s)).toArray⟩ : ByteArray) = S from by rw [HSS.out]; rfl] at hcv
      generalize (In.txtL (In.sgn n s)).length = ln at *
      have HB := Lib.hid hB
      clear hB hrow
      by_cases h200 : L ≤ 200
      · obtain rfl : B2 = true := by rw [HB2.out, decide_eq_true h200]
        have d2 : decide ((L : Int) ≤ 200) = true := by rw [decide_eq_true_eq]; omega
        go_wp2_with fail
        go_ret2
        exact ⟨rfl, HB.out⟩
      · obtain rfl : B2 = false := by rw [HB2.out, decide_eq_false h200]
        have d2 : decide ((L : Int) ≤ 200) = false := by rw [decide_eq_false_iff_not]; omega
        go_wp2_with fail
        go_ret2
        exact ⟨rfl, HB.out⟩
    | succ m =>
      rw [show ((m + 1 : Nat) : Int) - 1 = (m : Int) by omega]
      have hmL : m < (In.dg n).length := by rw [HL.out]; omega
      obtain ⟨x, hx⟩ : ∃ x, (In.dg n)[m]? = some x := ⟨_, List.getElem?_eq_getElem hmL⟩
      have lx : x < 10 := In.dg_lt n x (List.mem_of_getElem? hx)
      rcases (HA.out.next hB) with h | ⟨b, off, rfl, hb, hcell⟩
      · rw [h] at hx; simp at hx
      have c1 := hcell m x hx
      have HN := Lib.hid (show D.take (L - m) = D.take (L - (m + 1)) ++ [chr x] from by
        rw [show L - m = L - (m + 1) + 1 by omega, List.take_add_one]
        have : D[L - (m + 1)]? = some (chr x) := by
          rw [HD.out.1, List.getElem?_reverse (by rw [List.length_map, HL.out]; omega), List.length_map, List.getElem?_map, HL.out, show L - 1 - (L - (m + 1)) = m by omega, hx]
          rfl
        rw [this]
        rfl)
      have hlen : (preL s ++ D.take (L - (m + 1))).length ≤ 1002 := by
        rw [List.length_append, List.length_take]
        have : (preL s).length ≤ 1 := by cases s <;> decide
        omega
      have HR := Lib.hid (And.intro hrow hB)
      have hob := Lib.hid (own_block hrow)
      have hbs := hB.size
      have w1 : IntKind.u8.wrap (48 + (x : Int)) = 48 + (x : Int) := by simp [IntKind.wrap, IntKind.bits, IntKind.signed]; omega
      have hmL2 : m < L := by omega
      clear hx hcell hrow hB hmL
      generalize hQ : preL s ++ D.take (L - (m + 1)) = Q at *
      have HQ := Lib.hid hQ
      clear hQ
      go_wp2_with (at_builtin; refine wpList_append_own _ rfl _ _ 48 rfl w.heap.size 5 i0 (.int .u8 0) 1 1 Tryz.underlying48 hi hz0 hz1 hz2 rfl (by decide) _ _ _ rfl (HR.out.1.alloc _) ⟨wr.heap.size, 0, none⟩ 1 1 [.int .u8 (48 + (x : Int))] rfl rfl (cells_new _ _ _) (by simp [Value.oneCell']) (by unfold maxLen; omega) (by omega) (by simp; omega) ?_; intro v' w1' hown' hgrow _; have K := Lib.hid (And.intro hown' hgrow); clear hown' hgrow)
      go_roundw
      case rel =>
        refine ⟨m, by omega, by go_num, ?_, (HR.out.2.alloc hbs _).grown K.out.2 (by simp; omega) hob.out⟩
        refine own_is K.out.1 ?_ ?_
        · rw [HN.out, ← List.append_assoc, HQ.out, List.length_append]; rfl
        · rw [HN.out, ← List.append_assoc, HQ.out, List.map_append]
          congr 1
          have := (In.ofNat_dig lx).2.2
          simp only [List.map_cons, List.map_nil, byteV, chr]
          rw [this]
          simp
      case measure =>
        show ((m : Int) - 1 + 1).toNat < ((m : Int) + 1).toNat
        omega
end Go.Proofs.YtlehjmanlccncaaGreatDoor
