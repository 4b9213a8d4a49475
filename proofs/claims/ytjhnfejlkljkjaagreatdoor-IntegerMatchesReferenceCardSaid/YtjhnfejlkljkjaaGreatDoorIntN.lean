/- Natural numbers in groups: printing. -/
import Derived.Test.YtjhnfejlkljkjaaGreatDoorIntM
import Derived.Test.YtjhnfejlkljkjaaGreatDoorShelf
import Derived.Lib.SmallJoins
namespace Go.Proofs.YtjhnfejlkljkjaaGreatDoor
open Go.RowKit

abbrev TabI (w : World) : Prop := Lib.TabIs Tryz.prog w "internal/strconv.uint64pow10" .u64 Lib.pow10Tab
theorem gTabI : Tryz.prog.globalNamed "internal/strconv.uint64pow10" = some 2 := by kernel_rfl
theorem TabI.next {w w' : World} (h : TabI w) (hb : Below w.heap.size w w') : TabI w' := Go.Joins.tab_stays gTabI h hb (Nat.le_refl _)
abbrev decB (n : Nat) : ByteArray := ⟨(Lib.decDigits n).toArray⟩
theorem decB_size (n : Nat) : (decB n).size = (Lib.decDigits n).length := by simp [ByteArray.size]
theorem decB_list (n : Nat) : (decB n).data.toList = Lib.decDigits n := by simp
theorem decB_lt {n k : Nat} (hk : 1 ≤ k) (h : n < 10 ^ k) : (decB n).size ≤ k := by rw [decB_size]; exact (In.dec_len_le hk).2 h
theorem decB_pos (n : Nat) : 0 < (decB n).size := by rw [decB_size]; exact List.length_pos_iff.2 (In.dec_ne n)
theorem below_grown (w : World) (k : Nat) (os : Array Obj) : Below w.heap.size w (Go.Sort.grow (w.drewN k) os) :=
  (below_drewN (Below.refl _ _) k).trans ⟨rfl, rfl, rfl, by show w.heap.size ≤ _; rw [Go.Sort.size_grow]; exact Nat.le_add_right _ _, fun b hb => Go.Sort.heap_grow_old _ _ hb⟩
theorem itoa_nat (x : Nat) (hx : x ≤ 9223372036854775807) (w : World) (ht : TabI w) : Calls Tryz.prog 53 #[.int .i64 x] w fun e w' => e = .returned (.string (decB x)) ∧ Below w.heap.size w w' := by
  refine (Tryz.strconv_Itoa x (by omega) (by omega) w ht).mono ?_
  rintro e w' ⟨rfl, k, os, rfl⟩
  refine ⟨?_, below_grown _ _ _⟩
  have h : Lib.itoa (x : Int) = Lib.decDigits x := by
    unfold Lib.itoa
    rw [if_neg (by omega), Int.toNat_natCast]
  rw [h]
theorem repeat0 (c : Nat) (w : World) (hc : c ≤ 100) : Calls Tryz.prog 77 #[.string ⟨#[48]⟩, .int .i64 c] w fun e w' => e = .returned (.string ⟨(List.replicate c 48).toArray⟩) ∧ Below w.heap.size w w' := by
  have h : ∀ c, Lib.repeatL [48] c = List.replicate c 48 := by
    intro c
    induction c with
    | zero => rfl
    | succ c ih => rw [Lib.repeatL, ih]; rfl
  have := Tryz.strings_Repeat ⟨#[48]⟩ c w (by omega) (by show 1 * c ≤ _; omega)
  rw [h c] at this
  exact this
theorem ba_ext {a b : ByteArray} (h : a.data.toList = b.data.toList) : a = b := by
  cases a; cases b
  congr 1
  exact Array.toList_inj.1 h
theorem ba_append (a b : ByteArray) : (a ++ b).data.toList = a.data.toList ++ b.data.toList := by simp
set_option maxRecDepth 100000 in
set_option maxHeartbeats 2000000 in
theorem print_nat (u : Value) (n : Nat) (w : World) (hu : NSl w u n) (la : (In.gs n).length ≤ 700) (ht : TabI w) :
    Calls Tryz.prog 58 #[u] w fun e w' => e = .returned (.string (decB n)) ∧ Below w.heap.size w w' := by
  obtain ⟨o, c, rfl, a1, a2, a3, a4⟩ := hu.ex
  obtain ⟨L, hL⟩ : ∃ L, (In.gs n).length = L := ⟨_, rfl⟩
  rw [hL] at la a1 ⊢
  have HA := Lib.hid a4
  have HL := Lib.hid hL
  have HT := Lib.hid ht
  have HP := Lib.hid (show n < 10000 ^ L from by rw [← hL]; exact In.gs_lt_pow n)
  clear a4 hu ht hL
  by_cases hL0 : L = 0
  · subst hL0
    have h0 : n = 0 := In.gs_nil.1 HL.out
    have hd : decB n = ⟨#[48]⟩ := by rw [h0]; rw [decB, In.dec_zero]
    rw [hd]
    clear h0 hd
    go_enter Tryz.func58, Tryz.ntmps58
    go_wp2_with fail
    go_ret
    exact ⟨rfl, Below.refl _ _⟩
  · obtain ⟨K, rfl⟩ : ∃ K, L = K + 1 := ⟨L - 1, by omega⟩
    have hx := In.gs_at (n := n) (i := K) (by rw [HL.out]; omega)
    have lx : n / 10000 ^ K % 10000 < 10000 := Nat.mod_lt _ (by decide)
    have hX : n / 10000 ^ K % 10000 = n / 10000 ^ K := Nat.mod_eq_of_lt ((Nat.div_lt_iff_lt_mul (Nat.pow_pos (by decide))).2 (by rw [← Nat.pow_succ']; exact HP.out))
    have HX := Lib.hid hX
    clear hX
    generalize hx0 : n / 10000 ^ K % 10000 = x at *
    have HX0 := Lib.hid hx0
    clear hx0
    rcases HA.out with h | ⟨p, off, rfl, hp, hcell⟩
    · rw [h] at hx; simp at hx
    have c1 := hcell K x hx
    have HC := Lib.hid hcell
    clear hx hcell
    have HCI := Lib.hid (itoa_nat x (by omega) w HT.out)
    have d0 : (((K + 1 : Nat) : Int) == 0) = false := by simp; omega
    go_enter Tryz.func58, Tryz.ntmps58
    go_upto_region 3 with (fail)
    have e1 : ((K + 1 : Nat) : Int) - 1 = (K : Int) := by omega
    go_wp2_with fail
    refine Calls.mono HCI.out ?_
    rintro e wa ⟨rfl, hb⟩
    have HBA := Lib.hid hb
    clear hb e1 c1 HCI
    have e2 : ((K + 1 : Nat) : Int) - 2 = (K : Int) - 1 := by omega
    have HD := Lib.hid (show x = n / 10000 ^ K from HX.out)
    go_wp2_with fail
    go_loopw [3, 4] (fun sv iv wr => ∃ k : Nat, sv = .string (decB (n / 10000 ^ k)) ∧ iv = .int .i64 ((k : Int) - 1) ∧ k ≤ K ∧ Below w.heap.size w wr) (fun _ iv _ => (intOf iv + 1).toNat)
    case atStart => exact ⟨K, by rw [HD.out], by first | rfl | go_num, Nat.le_refl _, HBA.out⟩
    case round =>
      clear e2 HBA
      obtain ⟨k, rfl, rfl, hk, hB⟩ := hrel
      have HB := Lib.hid hB
      clear hB
      cases k with
      | zero =>
        rw [Nat.pow_zero, Nat.div_one, show ((0 : Nat) : Int) - 1 = -1 from rfl]
        go_wp2_with fail
        go_ret
        exact ⟨rfl, HB.out⟩
      | succ m =>
        rw [show ((m + 1 : Nat) : Int) - 1 = (m : Int) by omega]
        have hx := In.gs_at (n := n) (i := m) (by rw [HL.out]; omega)
        have ly : n / 10000 ^ m % 10000 < 10000 := Nat.mod_lt _ (by decide)
        have HN := Lib.hid (In.print_next (In.gs_high (n := n) (i := m + 1) (by rw [HL.out]; omega)))
        have HLE := Lib.hid (show (decB (n / 10000 ^ (m + 1))).size ≤ 4 * (K + 1) from decB_lt (by omega) (by
          have h1 := HP.out
          rw [show (10 : Nat) ^ (4 * (K + 1)) = 10000 ^ (K + 1) from by rw [Nat.pow_mul]]
          exact Nat.lt_of_le_of_lt (Nat.div_le_self _ _) h1))
        generalize n / 10000 ^ m % 10000 = y at *
        have c1 := (HB.out.cell (p := ⟨p, off + m, none⟩) hp).trans (HC.out m y hx)
        have HCI := Lib.hid (itoa_nat y (by omega) wr (by exact TabI.next HT.out HB.out))
        have lsz : (decB y).size ≤ 4 := decB_lt (by omega) ly
        have hsz := decB_size y
        have HY := Lib.hid (show (In.pad4 y) = List.replicate (4 - (decB y).size) 48 ++ (decB y).data.toList from by rw [decB_list, decB_size]; rfl)
        have hS := HLE.out
        have hbm : (decB (n / 10000 ^ (m + 1))).data.toList = Lib.decDigits (n / 10000 ^ (m + 1)) := decB_list _
        have HBM := Lib.hid hbm
        clear hbm hx hsz
        generalize decB (n / 10000 ^ (m + 1)) = S at *
        generalize decB y = G at *
        obtain ⟨q, hq⟩ : ∃ q : Nat, q = 4 - G.size := ⟨_, rfl⟩
        have hqI : (4 : Int) - (G.size : Int) = (q : Int) := by omega
        have HQ := Lib.hid hq
        have hq4 : q ≤ 4 := by omega
        clear hq
        go_upto_region 8 with (go_at_call 53; with_reducible refine Calls.mono HCI.out ?_; rintro e wa ⟨rfl, hb⟩; have HA1 := Lib.hid (Below.andThen HB.out hb); clear hb)
        have CR := Lib.hid (repeat0 q wa (by omega))
        have hRs : ByteArray.size ⟨(List.replicate q (48 : UInt8)).toArray⟩ = q := by
          show (List.replicate q (48 : UInt8)).toArray.size = q
          rw [List.size_toArray, List.length_replicate]
        have m1 : ¬ 9223372036854775807 < 1 + ByteArray.size ⟨(List.replicate q (48 : UInt8)).toArray⟩ + G.size := by rw [hRs]; omega
        have m2 : ¬ 9223372036854775807 < 1 + S.size + (ByteArray.size ⟨(List.replicate q (48 : UInt8)).toArray⟩ + G.size) := by rw [hRs]; omega
        clear hRs
        generalize hR : (⟨(List.replicate q (48 : UInt8)).toArray⟩ : ByteArray) = R at *
        have HR := Lib.hid hR
        clear hR
        go_wp2_with (go_at_call 77; with_reducible refine Calls.mono CR.out ?_; rintro e wb ⟨rfl, hb⟩; have HB1 := Lib.hid (Below.andThen HA1.out hb); clear hb)
        refine ⟨⟨m, ?_, by first | rfl | go_num, by omega, HB1.out⟩, by simp [intOf]⟩
        congr 1
        apply ba_ext
        rw [ba_append, ba_append, HBM.out, decB_list, HN.out, HY.out, ← HR.out, HQ.out]
end Go.Proofs.YtjhnfejlkljkjaaGreatDoor
