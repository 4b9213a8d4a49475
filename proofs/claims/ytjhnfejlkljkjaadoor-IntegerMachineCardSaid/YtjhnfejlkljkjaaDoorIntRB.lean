/- The reference implementation: Made. -/
import Derived.Test.YtjhnfejlkljkjaaDoorIntRA
import Derived.Test.YtjhnfejlkljkjaaDoorLate
namespace Go.Proofs.YtjhnfejlkljkjaaDoor
open Go.RowKit

/-- the digits that a string determines, and its sign -/
def madeL (s : ByteArray) (m : Nat) : List Nat := (s.data.toList.take m).map fun c => c.toNat % 10
def highB (s : ByteArray) : Bool := match s.data.toList.head? with | some c => decide (128 ≤ c.toNat) | none => false
def madeZ (s : ByteArray) (m : Nat) : Int := In.sgn (In.nv 10 (madeL s m)) (highB s)
theorem madeL_lt (s : ByteArray) (m : Nat) : ∀ x ∈ madeL s m, x < 10 := by
  intro x hx
  obtain ⟨c, _, rfl⟩ := List.mem_map.1 hx
  exact Nat.mod_lt _ (by decide)
theorem madeL_len (s : ByteArray) (m : Nat) : (madeL s m).length = min m s.size := by
  unfold madeL
  rw [List.length_map, List.length_take, ← Lib.size_eq]
theorem madeZ_lt (s : ByteArray) (m : Nat) : (madeZ s m).natAbs < 10 ^ m := by
  unfold madeZ
  rw [In.sgn_abs]
  refine Nat.lt_of_lt_of_le (In.nv_lt _ (madeL_lt s m)) (Nat.pow_le_pow_right (by decide) ?_)
  rw [madeL_len]
  omega
theorem madeZ_fit {s : ByteArray} {m : Nat} (h : m ≤ 200) : In.Fit (madeZ s m) := Nat.lt_of_lt_of_le (madeZ_lt s m) (Nat.pow_le_pow_right (by decide) h)

/-- the slice that trim returns holds the digits before it is called -/
theorem dsl_pre {w : World} {o : Option Addr} {c L : Nat} {l : List Nat} (hl : ∀ x ∈ l, x < 10) (hL : l.length = L) (h1 : L ≤ c) (h2 : c ≤ 9223372036854775807) (h3 : o = none → c = 0) (h : LSl w o l) : DSl w (.slice o (In.dg (In.nv 10 l)).length c) (In.nv 10 l) := by
  obtain ⟨k, hk⟩ := In.gr_nv (B := 10) (by decide) l hl
  have hlen := congrArg List.length hk
  rw [List.length_append, List.length_replicate] at hlen
  have e : In.dg (In.nv 10 l) = l.take (In.dg (In.nv 10 l)).length := by
    have h5 : (In.dg (In.nv 10 l) ++ List.replicate k 0).take (In.dg (In.nv 10 l)).length = In.dg (In.nv 10 l) := List.take_left' rfl
    exact h5.symm.trans (congrArg (List.take _) hk.symm)
  refine DSl.mk' rfl (by show (In.gr 10 (In.nv 10 l)).length ≤ c; omega) h2 h3 ?_
  rw [e]
  exact h.take _
theorem rtrim_fix (o : Option Addr) (L c : Nat) (l : List Nat) (w : World) (hL : l.length = L) (hl : ∀ x ∈ l, x < 10) (hc : L ≤ c) (hc2 : c ≤ 9223372036854775807) (ho : o = none → c = 0) (hS : LSl w o l) :
    Calls Tryd.prog 38 #[.slice o L c] w fun e w' => e = .returned (.slice o (In.dg (In.nv 10 l)).length c) ∧ Below w.heap.size w w' :=
  (rtrim_any o L c l w hL hl hc hc2 ho hS).mono fun _ _ ⟨k, h1, h2, h3⟩ => by
    obtain ⟨o', c', e, _⟩ := h2.ex
    have hk : k = (In.dg (In.nv 10 l)).length := by injection e
    subst hk
    exact ⟨h1, h3⟩
set_option maxRecDepth 100000 in
set_option maxHeartbeats 4000000 in
theorem Made_any (s : ByteArray) (m : Nat) (w : World) (hm : m ≤ 200) (hs : s.size ≤ maxLen) :
    Calls Tryd.prog 20 #[.string s, .int .i64 m] w fun e w' => e = .returned (.string (In.txt (madeZ s m))) ∧ Below w.heap.size w w' := by
  obtain ⟨i0, hi, hz0, hz1, hz2⟩ := info_parts infoInt
  unfold maxLen at hs
  have hlen := madeL_len s m
  obtain ⟨N, hN⟩ : ∃ N, min m s.size = N := ⟨_, rfl⟩
  rw [hN] at hlen
  have HN := Lib.hid hN
  have HLL := Lib.hid hlen
  have HLT := Lib.hid (madeL_lt s m)
  have n1 : N ≤ m := by omega
  have n2 : N ≤ s.size := by omega
  have hat : ∀ j (h : j < s.size), j < m → (madeL s m)[j]? = some ((s[j]'h).toNat % 10) := by
    intro j h hj
    unfold madeL
    rw [List.getElem?_map, List.getElem?_take, if_pos hj, ba_at s j h]
    rfl
  have HAT := Lib.hid hat
  obtain ⟨S, hS⟩ : ∃ S, S = In.txt (madeZ s m) := ⟨_, rfl⟩
  rw [← hS]
  have HSS := Lib.hid hS
  clear hN hlen hat hS
  unfold madeZ at HSS
  generalize madeL s m = l at *
  go_enter Tryd.func20, Tryd.ntmps20
  go_wp2_with fail
  go_loopw [5, 6] (fun v iv wr => ∃ j : Nat, j ≤ N ∧ iv = .int .i64 j ∧ wr.ownsRow w.heap.size 3 1 v j ((l.take j).map natV) ∧ Below w.heap.size w wr) (fun _ iv _ => N - (intOf iv).toNat)
  case atStart => exact ⟨0, Nat.zero_le _, rfl, World.ownsRow_nil _ _ _ _, Below.refl _ _⟩
  case round =>
    obtain ⟨j, hj, rfl, hrow, hB⟩ := hrel
    by_cases hlt : j < N
    · have h1 : j < s.size := by omega
      have h2 : j < m := by omega
      have hx := HAT.out j h1 h2
      have i1 := fun (w : World) => run_index_at (P := Tryd.prog) w 9 s .i64 j rfl h1
      have hb := (s[j]'h1).toNat_lt
      generalize (s[j]'h1).toNat = c at *
      have HX := Lib.hid (show l.take (j + 1) = l.take j ++ [c % 10] from by rw [List.take_add_one, hx, Option.toList_some])
      have hob := Lib.hid (own_block hrow)
      have HB := Lib.hid hB
      have hbs := hB.size
      have hl0 : ((l.take j)).length = j := by rw [List.length_take, HLL.out]; omega
      have HL0 := Lib.hid hl0
      have hrow2 : wr.ownsRow w.heap.size 3 1 u5 j ((l.take j).map natV) := hrow
      clear hx hB hl0 hrow
      go_wp2_with (at_builtin; refine wpList_append_nats rfl _ _ 48 Tryd.underlying48 rfl rfl w.heap.size _ j (l.take j) rfl (hrow2.alloc _) (some ⟨wr.heap.size, 0, none⟩) 1 1 [c % 10] rfl rfl (fun h => by cases h) (row_sl (Row.new _ 3 [natV (c % 10)])) (by omega) (by simp; omega) ?_; intro v' w1 hown' hgrow; have K := Lib.hid (And.intro hown' hgrow); clear hown' hgrow hrow2)
      go_roundw
      case rel => exact ⟨j + 1, by omega, by go_num, by rw [HX.out]; exact K.out.1, (HB.out.alloc hbs _).grown K.out.2 (by simp; omega) hob.out⟩
      case measure => simp [intOf]; omega
    · obtain rfl : j = N := by omega
      rw [List.take_of_length_le (by rw [HLL.out]; exact Nat.le_refl _)] at hrow
      obtain ⟨o, c, rfl, c1, c2, c3, c4⟩ := own_nats hrow
      unfold maxLen at c2
      have hds := dsl_pre HLT.out HLL.out c1 (show c ≤ 9223372036854775807 by omega) c3 c4
      have D0 := Lib.hid (fun (k : Kin wr) => rtrim_fix o j c l k.it HLL.out HLT.out c1 (by omega) c3 (c4.next k.below))
      have HDS := Lib.hid hds
      clear hds
      have hdl : (In.dg (In.nv 10 l)).length ≤ 1000 := by
        have h1 := In.nv_lt l HLT.out
        rw [HLL.out] at h1
        have := In.gr_len_le (B := 10) (by decide) _ _ h1
        have h3 : (In.dg (In.nv 10 l)).length ≤ j := this
        omega
      have D1 := Lib.hid (fun (b : Bool) (k : Kin wr) => rtext_any _ (In.nv 10 l) b k.it (HDS.out.next k.below) hdl)
      have HB := Lib.hid hB
      clear c1 c2 c3 c4 hrow hB hdl
      have dec : decide (j < s.size) = false ∨ (j < s.size ∧ decide (j < m) = false) := by
        have := HN.out
        rcases Nat.lt_or_ge j s.size with h | h
        · right; exact ⟨h, by rw [decide_eq_false_iff_not]; omega⟩
        · left; rw [decide_eq_false_iff_not]; omega
      have h00 : Below wr.heap.size wr wr.drew := (Below.refl _ _).drew
      have hcase : (s.size = 0 ∧ highB s = false) ∨ (∃ c0 : Nat, 0 < s.size ∧ (∀ W : World, (Instr.index 9 (.string s) (.int .i64 0)).run Tryd.prog W = .ok (.int .u8 c0) W) ∧ highB s = decide (128 ≤ c0)) := by
        rcases Nat.eq_zero_or_pos s.size with h | h
        · left
          refine ⟨h, ?_⟩
          unfold highB
          rw [show s.data.toList = [] from List.eq_nil_of_length_eq_zero (by rw [← Lib.size_eq]; exact h)]
          rfl
        · right
          refine ⟨(s[0]'h).toNat, h, fun W => by have := run_index_at (P := Tryd.prog) W 9 s .i64 0 rfl h; exact this, ?_⟩
          unfold highB
          rw [List.head?_eq_getElem?, ba_at s 0 h]
      obtain ⟨hb, hhb⟩ : ∃ b, b = highB s := ⟨_, rfl⟩
      rw [← hhb] at hcase HSS
      clear hhb HAT HLT HLL n1 n2 hlt
      have HC := Lib.hid hcase
      clear hcase
      generalize (In.dg (In.nv 10 l)).length = K at *
      generalize In.nv 10 l = n at *
      rcases dec with d1 | ⟨h1, d1⟩
      all_goals (
        go_upto_region 6 with (fail)
        try clear d1
        try clear h1
        rcases HC.out with ⟨h0, rfl⟩ | ⟨c0, h0, i1, hc⟩
        · obtain rfl : s = ⟨#[]⟩ := ba_ext (List.eq_nil_of_length_eq_zero (by rw [← Lib.size_eq]; exact h0))
          have hz0 : (⟨#[]⟩ : ByteArray).size = 0 := rfl
          refine wp_region_late_tail 13 [14] 14 (by kernel_rfl) (by kernel_rfl) (fun dst _ _ _ _ h => by cases dst <;> exact h) (by kernel_rfl) wr.heap.size 0 (by simp) (fun hk => ?_)
          simp only [List.take_succ_cons, List.take_zero, List.drop_succ_cons, List.drop_zero]
          repeat (go_big_quiet_step (first | (go_at_call 38; with_reducible exact Calls.kin (D0.out _)) | (go_at_call 37; with_reducible exact Calls.kin (D1.out _ _))))
          refine wpQuiet_nil ?_
          clear hk
          intro W2 hb
          have HB2 := Lib.hid (Below.andThen HB.out hb)
          clear hb
          go_wp2_with fail
          go_ret
          exact ⟨retv (congrArg Value.string HSS.out.symm), HB2.out⟩
        · have d0 : decide (0 < (s.size : Int)) = true := by rw [decide_eq_true_eq]; omega
          by_cases h128 : 128 ≤ c0
          · rw [decide_eq_true h128] at hc
            subst hc
            have d3 : decide (128 ≤ (c0 : Int)) = true := by rw [decide_eq_true_eq]; omega
            refine wp_region_late_tail 13 [14] 14 (by kernel_rfl) (by kernel_rfl) (fun dst _ _ _ _ h => by cases dst <;> exact h) (by kernel_rfl) wr.heap.size 0 (by simp) (fun hk => ?_)
            simp only [List.take_succ_cons, List.take_zero, List.drop_succ_cons, List.drop_zero]
            repeat (go_big_quiet_step (first | (go_at_call 38; with_reducible exact Calls.kin (D0.out _)) | (go_at_call 37; with_reducible exact Calls.kin (D1.out _ _))))
            refine wpQuiet_nil ?_
            clear hk
            intro W2 hb
            have HB2 := Lib.hid (Below.andThen HB.out hb)
            clear hb
            go_wp2_with fail
            go_ret
            exact ⟨retv (congrArg Value.string HSS.out.symm), HB2.out⟩
          · rw [decide_eq_false h128] at hc
            subst hc
            have d3 : decide (128 ≤ (c0 : Int)) = false := by rw [decide_eq_false_iff_not]; omega
            refine wp_region_late_tail 13 [14] 14 (by kernel_rfl) (by kernel_rfl) (fun dst _ _ _ _ h => by cases dst <;> exact h) (by kernel_rfl) wr.heap.size 0 (by simp) (fun hk => ?_)
            simp only [List.take_succ_cons, List.take_zero, List.drop_succ_cons, List.drop_zero]
            repeat (go_big_quiet_step (first | (go_at_call 38; with_reducible exact Calls.kin (D0.out _)) | (go_at_call 37; with_reducible exact Calls.kin (D1.out _ _))))
            refine wpQuiet_nil ?_
            clear hk
            intro W2 hb
            have HB2 := Lib.hid (Below.andThen HB.out hb)
            clear hb
            go_wp2_with fail
            go_ret
            exact ⟨retv (congrArg Value.string HSS.out.symm), HB2.out⟩)
end Go.Proofs.YtjhnfejlkljkjaaDoor
