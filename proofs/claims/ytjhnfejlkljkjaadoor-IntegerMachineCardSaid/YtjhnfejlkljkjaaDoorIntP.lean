/- Integers as strings: Valid, parse, read. -/
import Derived.Test.YtjhnfejlkljkjaaDoorIntO
import Derived.Test.YtjhnfejlkljkjaaDoorIntN
namespace Go.Proofs.YtjhnfejlkljkjaaDoor
open Go.RowKit

namespace In
/-- without a sign -/
def dl (l : List UInt8) : List UInt8 := if l.head? = some 45 then l.tail else l
theorem trim_dash (l : List UInt8) : Lib.trimPrefix l [45] = dl l := by
  unfold Lib.trimPrefix Lib.hasPrefix dl
  cases l with
  | nil => rfl
  | cons c r =>
    rw [List.head?_cons]
    by_cases h : c = 45
    · subst h; rfl
    · rw [if_neg (by simp [List.isPrefixOf]; exact fun e => h e.symm), if_neg (by simpa using h)]
theorem v_nil {l : List UInt8} (h : dl l = []) : validL l = false := by
  unfold dl at h
  unfold validL
  dsimp only
  rw [h]
  rfl
theorem v_long {l : List UInt8} (h : 200 < (dl l).length) : validL l = false := by
  unfold dl at h
  unfold validL
  dsimp only
  rw [decide_eq_false (p := (if l.head? = some 45 then l.tail else l).length ≤ 200) (by omega)]
  simp
theorem v_dig {l : List UInt8} {c : UInt8} (hc : c ∈ dl l) (h : isDig c = false) : validL l = false := by
  unfold dl at hc
  unfold validL
  dsimp only
  have : (if l.head? = some 45 then l.tail else l).all isDig = false := by
    rw [List.all_eq_false]
    exact ⟨c, hc, by rw [h]; simp⟩
  rw [this]
  simp
theorem v_all {l : List UInt8} (h0 : dl l ≠ []) (h1 : (dl l).length ≤ 200) (h2 : ∀ c ∈ dl l, isDig c = true) : validL l = (decide ((dl l).head? ≠ some 48) || decide (l = [48])) := by
  unfold dl at h0 h1 h2 ⊢
  unfold validL
  dsimp only
  rw [decide_eq_true h0, decide_eq_true h1, List.all_eq_true.2 h2]
  simp
theorem v_digs {l : List UInt8} (h : validL l = true) : (∀ c ∈ dl l, isDig c = true) ∧ (dl l).length ≤ 200 := by
  unfold validL at h
  dsimp only at h
  simp only [Bool.and_eq_true, List.all_eq_true, decide_eq_true_eq] at h
  unfold dl
  exact ⟨h.1.2, h.1.1.2⟩
/-- the sign of a valid string -/
theorem v_neg {l : List UInt8} (h : validL l = true) : neg (valL l) = decide (l.head? = some 45) ∧ (valL l).natAbs = val10 (dl l) := by
  obtain ⟨h1, h2⟩ := valid_val h
  constructor
  · unfold neg
    by_cases hz : valL l < 0
    · have : l.head? = some 45 := by
        rw [h1]
        unfold txtL Lib.itoa
        rw [if_pos hz]
        rfl
      rw [decide_eq_true hz, decide_eq_true this]
    · have : l.head? ≠ some 45 := by
        rw [h1]
        unfold txtL Lib.itoa
        rw [if_neg hz]
        exact head_dec _
      rw [decide_eq_false hz, decide_eq_false this]
  · unfold valL dl
    split
    · omega
    · omega
end In
theorem run_index_at {P : Program} (w : World) (t : TypeId) (s : ByteArray) (k : IntKind) (i : Nat) (h : P.underlying t = some .string) (hi : i < s.size) :
    (Instr.index t (.string s) (.int k (i : Int))).run P w = .ok (.int .u8 (s[i]'hi).toNat) w := by
  rw [run_index_string w t s k i h, dif_pos (by omega)]
  rfl
/-- a valid integer as the program holds it -/
def NumV (w : World) (v : Value) (z : Int) : Prop := ∃ s, v = .agg #[s, .bool (In.neg z)] ∧ NSl w s z.natAbs
theorem NumV.next {w w' : World} {v : Value} {z : Int} (h : NumV w v z) (hb : Below w.heap.size w w') : NumV w' v z := by
  obtain ⟨s, rfl, h⟩ := h
  exact ⟨s, rfl, h.next hb⟩
theorem dash_any (s : ByteArray) (w : World) : Calls Tryd.prog 36 #[.string s, .string ⟨#[45]⟩] w fun e w' => e = .returned (.string ⟨(In.dl s.data.toList).toArray⟩) ∧ w = w' := by
  have := Tryd.strings_TrimPrefix s ⟨#[45]⟩ w
  rw [show (⟨#[45]⟩ : ByteArray).data.toList = [45] from rfl, In.trim_dash] at this
  exact this.mono fun _ _ h => ⟨h.1, h.2.symm⟩

set_option maxRecDepth 100000 in
set_option maxHeartbeats 2000000 in
theorem valid_any (s : ByteArray) (w : World) : Calls Tryd.prog 19 #[.string s] w fun e w' => e = .returned (.bool (In.validL s.data.toList)) ∧ w = w' := by
  obtain ⟨V, hV⟩ : ∃ V, V = In.validL s.data.toList := ⟨_, rfl⟩
  rw [← hV]
  have CD := Lib.hid (dash_any s w)
  obtain ⟨d, hd⟩ : ∃ d : ByteArray, d = ⟨(In.dl s.data.toList).toArray⟩ := ⟨_, rfl⟩
  have hdl : d.data.toList = In.dl s.data.toList := by rw [hd]
  have hds : d.size = (In.dl s.data.toList).length := by rw [← hdl]; simp
  rw [← hd] at CD
  have HDL := Lib.hid hdl
  have HV := Lib.hid hV
  clear hd hdl hV
  by_cases h0 : d.size = 0
  · have e : V = false := by rw [HV.out]; exact In.v_nil (List.eq_nil_of_length_eq_zero (by rw [← hds]; exact h0))
    subst e
    have d0 : ((d.size : Int) == 0) = true := by simp [h0]
    clear HV hds
    go_enter Tryd.func19, Tryd.ntmps19
    go_wp2_with (go_at_call 36; refine Calls.mono CD.out ?_; rintro e w' ⟨rfl, rfl⟩)
    go_ret
    exact ⟨rfl, rfl⟩
  have d0 : ((d.size : Int) == 0) = false := by rw [beq_eq_false_iff_ne]; omega
  by_cases h1 : 200 < d.size
  · have e : V = false := by rw [HV.out]; exact In.v_long (by rw [← hds]; exact h1)
    subst e
    clear HV hds
    go_enter Tryd.func19, Tryd.ntmps19
    go_wp2_with (go_at_call 36; refine Calls.mono CD.out ?_; rintro e w' ⟨rfl, rfl⟩)
    go_ret
    exact ⟨rfl, rfl⟩
  have HDS := Lib.hid hds
  clear hds
  go_enter Tryd.func19, Tryd.ntmps19
  go_wp2_with (go_at_call 36; refine Calls.mono CD.out ?_; rintro e w' ⟨rfl, rfl⟩)
  go_loopw [17] (fun iv wr => ∃ k : Nat, k ≤ d.size ∧ iv = .int .i64 k ∧ wr = w ∧ ∀ j c, j < k → d.data.toList[j]? = some c → In.isDig c = true) (fun iv _ => d.size - (intOf iv).toNat)
  case atStart => exact ⟨0, Nat.zero_le _, rfl, rfl, fun j c h => absurd h (Nat.not_lt_zero _)⟩
  case round =>
    obtain ⟨k, hk, rfl, rfl, hall⟩ := hrel
    by_cases hlt : k < d.size
    · have hc := ba_at d k hlt
      have i1 := fun (w : World) => run_index_at (P := Tryd.prog) w 9 d .i64 k rfl hlt
      have HA := Lib.hid hall
      clear hall
      obtain ⟨c, hcc⟩ : ∃ c, c = (d[k]'hlt) := ⟨_, rfl⟩
      rw [← hcc] at hc i1
      have HC := Lib.hid hc
      clear hc hcc
      have HX := Lib.hid (show In.isDig c = (decide (48 ≤ c.toNat) && decide (c.toNat ≤ 57)) from rfl)
      generalize hx : c.toNat = x at *
      clear hx
      by_cases hg : 48 ≤ x ∧ x ≤ 57
      · have HG := Lib.hid (show In.isDig c = true from by rw [HX.out, decide_eq_true hg.1, decide_eq_true hg.2]; rfl)
        obtain ⟨g1, g2⟩ := hg
        go_wp2_with fail
        go_roundw
        case rel =>
          refine ⟨k + 1, hlt, by go_num, by first | rfl | trivial, fun j c' hj hc' => ?_⟩
          rcases Nat.lt_or_ge j k with h | h
          · exact HA.out j c' h hc'
          · obtain rfl : j = k := by omega
            rw [HC.out] at hc'
            rw [← Option.some.inj hc']
            exact HG.out
        case measure => simp [intOf]; omega
      · have e : V = false := by
          rw [HV.out]
          refine In.v_dig (c := c) (by rw [← HDL.out]; exact List.mem_of_getElem? HC.out) ?_
          rw [HX.out]
          by_cases h : 48 ≤ x
          · rw [decide_eq_false (p := x ≤ 57) (by omega), Bool.and_false]
          · rw [decide_eq_false h, Bool.false_and]
        subst e
        rcases Nat.lt_or_ge x 48 with h | h
        · clear hg
          go_wp2_with fail
          go_ret
          first | exact ⟨rfl, rfl⟩ | exact ⟨trivial, rfl⟩ | exact trivial
        · have h2 : 57 < x := by omega
          clear hg
          go_wp2_with fail
          go_ret
          first | exact ⟨rfl, rfl⟩ | exact ⟨trivial, rfl⟩ | exact trivial
    · obtain rfl : k = d.size := by omega
      have hV2 : V = (decide ((In.dl s.data.toList).head? ≠ some 48) || decide (s.data.toList = [48])) := by
        rw [HV.out]
        refine In.v_all (fun h => h0 (by rw [HDS.out, h]; rfl)) (by rw [← HDS.out]; omega) (fun c hc => ?_)
        rw [← HDL.out] at hc
        obtain ⟨j, hj⟩ := List.getElem?_of_mem hc
        exact hall j c (by simpa using (List.getElem?_eq_some_iff.1 hj).1) hj
      have hp : 0 < d.size := by omega
      have hc := ba_at d 0 hp
      have i1 := fun (w : World) => run_index_at (P := Tryd.prog) w 9 d .i64 0 rfl hp
      rw [show ((0 : Nat) : Int) = 0 from rfl] at i1
      rw [← HDL.out, List.head?_eq_getElem?, hc] at hV2
      have HV2 := Lib.hid hV2
      clear hall hV2 hc
      have hsl : (s.toList == ([48] : List UInt8)) = decide (s.data.toList = [48]) := by rw [ByteArray.toList_eq, Bool.eq_iff_iff]; simp
      generalize decide (s.data.toList = [48]) = B at *
      generalize (d[0]'hp) = c at *
      by_cases hx : c.toNat = 48
      · obtain rfl : c = 48 := UInt8.toNat_inj.1 hx
        have e : V = B := by rw [HV2.out]; simp
        subst e
        clear hx
        have e48 : (48 : UInt8).toNat = 48 := rfl
        rw [e48] at i1
        go_wp2_with fail
        go_ret
        exact ⟨rfl, rfl⟩
      · have e : V = true := by
          rw [HV2.out, decide_eq_true (p := some c ≠ some 48) (fun h => hx (by rw [Option.some.inj h]; rfl))]
          rfl
        subst e
        clear HV2 HV HDL HDS
        generalize c.toNat = x at *
        have d1 : ((x : Int) == 48) = false := by simp; omega
        have d2 : decide ((x : Int) = 48) = false := by simp; omega
        have d3 : ((x : Int) != 48) = true := by simp; omega
        clear hx
        go_wp2_with fail
        go_ret
        exact ⟨rfl, rfl⟩
end Go.Proofs.YtjhnfejlkljkjaaDoor
