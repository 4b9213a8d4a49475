/- Helpers of the laws: joined, texts, few, plain. -/
import Derived.Test.YtebdpdmkehfgfaaDoorWoU
import Derived.ChangeKeysEq
import Derived.Laws.StructEq
set_option linter.unusedVariables false
set_option linter.unusedSimpArgs false
namespace Go.Proofs.YtebdpdmkehfgfaaDoor
open Go.RowKit
namespace Wo
/-- words, with one space between two of them -/
def joinF (l : List B) : Nat → B
  | 0 => []
  | i + 1 => (if 0 < i then joinF l i ++ [32] else joinF l i) ++ l.getD i []
theorem joinF_len {l : List B} {z : Nat} (hs : ∀ i, (l.getD i []).length ≤ z) : ∀ i, (joinF l i).length ≤ i * (z + 1)
  | 0 => by simp [joinF]
  | i + 1 => by
    have ih := joinF_len hs i
    have h := hs i
    unfold joinF
    rw [List.length_append, Nat.succ_mul]
    split
    · rw [List.length_append]
      simp only [List.length_cons, List.length_nil]
      omega
    · omega
set_option maxRecDepth 100000 in
set_option maxHeartbeats 1000000 in
theorem joined_l (o : Option Addr) (n c : Nat) (l : List B) (w : World) (hl : l.length = n) (hn : n ≤ 100) (hs : ∀ i, (l.getD i []).length ≤ 1000) (hS : SSl w o l) :
    Calls Tryd.prog 45 #[.slice o n c] w fun e w' => e = .returned (sV (joinF l n)) ∧ w = w' := by
  have HS := Lib.hid hS
  have HL := Lib.hid hl
  have HZ := Lib.hid hs
  have HJ := Lib.hid (joinF_len hs)
  clear hS hl hs
  go_enter Tryd.func45, Tryd.ntmps45
  go_wp2_with fail
  go_loopw [3, 4] (fun sv iv wr => ∃ i : Nat, sv = sV (joinF l i) ∧ iv = .int .i64 i ∧ i ≤ n ∧ wr = w) (fun _ iv _ => n - (intOf iv).toNat)
  case atStart => exact ⟨0, rfl, rfl, Nat.zero_le _, by first | rfl | trivial⟩
  case round =>
    obtain ⟨i, rfl, rfl, hi, rfl⟩ := hrel
    by_cases hlt : i < n
    · obtain ⟨b1, f1, rfl, hb1, hc1⟩ := HS.out.cells (fun e => by have := HL.out; rw [e] at this; simp at this; omega)
      have k1 := hc1 i _ (getD_get (by rw [HL.out]; exact hlt))
      have z1 : (bs (joinF l i)).size ≤ 200000 := by
        rw [bs_size]
        have := HJ.out i
        have : i * (1000 + 1) ≤ 100 * (1000 + 1) := Nat.mul_le_mul_right _ (by omega)
        omega
      have z2 : (bs (l.getD i [])).size ≤ 1000 := by rw [bs_size]; exact HZ.out i
      have HE := Lib.hid (show joinF l (i + 1) = (if 0 < i then joinF l i ++ [32] else joinF l i) ++ l.getD i [] from rfl)
      generalize joinF l i = J at *
      generalize l.getD i [] = x at *
      clear hc1
      by_cases h0 : 0 < i
      · replace HE := Lib.hid (HE.out.trans (show _ = (J ++ [32]) ++ x from by rw [if_pos h0]))
        go_wp2_with fail
        go_roundw
        case rel => exact ⟨i + 1, by rw [HE.out, show (bs J ++ (⟨#[32]⟩ : ByteArray)) = bs (J ++ [32]) from bs_append J [32], bs_append], by go_num, by omega, by first | rfl | trivial⟩
        case measure => simp [intOf]; omega
      · replace HE := Lib.hid (HE.out.trans (show _ = J ++ x from by rw [if_neg h0]))
        obtain rfl : i = 0 := by omega
        simp only [Nat.add_zero] at k1
        go_wp2_with fail
        go_roundw
        case rel => exact ⟨0 + 1, by rw [HE.out, bs_append], by go_num, by omega, by first | rfl | trivial⟩
        case measure => simp [intOf]; omega
    · obtain rfl : i = n := by omega
      go_wp2_with fail
      go_ret
      exact ⟨rfl, rfl⟩
/-- bytes of letters and hyphens -/
def plB (c : UInt8) : Bool := c == 45 || (97 ≤ c && c ≤ 122)
theorem run_index_bs (w : World) (l : B) (i : Nat) (x : UInt8) (hx : l[i]? = some x) : (Instr.index 9 (.string (bs l)) (.int .i64 i)).run Tryd.prog w = .ok (.int .u8 x.toNat) w := by
  have hi : i < (bs l).size := by rw [bs_size]; exact (List.getElem?_eq_some_iff.1 hx).1
  have hl : i < l.length := (List.getElem?_eq_some_iff.1 hx).1
  rw [run_index_string w 9 (bs l) .i64 i rfl, dif_pos (by omega)]
  exact congrArg (fun c : UInt8 => Result.ok (Value.int .u8 (c.toNat : Int)) w) (show l[i] = x from (List.getElem?_eq_some_iff.1 hx).2)
set_option maxRecDepth 100000 in
set_option maxHeartbeats 1000000 in
theorem plain_any (l : B) (w : World) (hl : l.length ≤ 1000000) : Calls Tryd.prog 30 #[.string (bs l)] w fun e w' => e = .returned (.bool (l.all plB)) ∧ w = w' := by
  have zl : (bs l).size = l.length := bs_size l
  have HA := Lib.hid (fun i (hi : i < l.length) (h : plB (l.getD i 0) = false) => show l.all plB = false from by
    rw [List.all_eq_false]
    refine ⟨l.getD i 0, ?_, by simpa using h⟩
    rw [List.getD_eq_getElem?_getD, List.getElem?_eq_getElem hi, Option.getD_some]
    exact List.getElem_mem _)
  have HY := Lib.hid (fun (h : ∀ i, i < l.length → plB (l.getD i 0) = true) => show l.all plB = true from by
    rw [List.all_eq_true]
    intro x hx
    obtain ⟨i, hi, e⟩ := List.getElem_of_mem hx
    have := h i hi
    rw [List.getD_eq_getElem?_getD, List.getElem?_eq_getElem hi, Option.getD_some, e] at this
    exact this)
  have HX := Lib.hid (fun i (hi : i < l.length) w => run_index_bs w l i (l.getD i 0) (by rw [List.getD_eq_getElem?_getD, List.getElem?_eq_getElem hi, Option.getD_some]))
  generalize l.all plB = R at *
  generalize l.length = n at *
  go_enter Tryd.func30, Tryd.ntmps30
  go_wp2_with fail
  go_loopw [3] (fun iv wr => ∃ i : Nat, iv = .int .i64 i ∧ i ≤ n ∧ (∀ j, j < i → plB (l.getD j 0) = true) ∧ wr = w) (fun iv _ => n - (intOf iv).toNat)
  case atStart => exact ⟨0, rfl, Nat.zero_le _, fun j hj => absurd hj (Nat.not_lt_zero _), by first | rfl | trivial⟩
  case round =>
    obtain ⟨i, rfl, hi, hE, rfl⟩ := hrel
    have HE := Lib.hid hE
    clear hE
    by_cases hlt : i < n
    · have hr := HX.out i hlt
      have HAi := Lib.hid (HA.out i hlt)
      generalize hx : l.getD i 0 = x at *
      have e1 : plB x = (decide (x.toNat = 45) || (decide (97 ≤ x.toNat) && decide (x.toNat ≤ 122))) := by
        unfold plB
        rw [show (x == 45) = decide (x.toNat = 45) by rw [Bool.eq_iff_iff]; simp [← UInt8.toNat_inj]]
        rfl
      obtain ⟨v, hv⟩ : ∃ v, x.toNat = v := ⟨_, rfl⟩
      rw [hv] at e1 hr
      clear hv
      by_cases h45 : v = 45
      · have d1 : ((v : Int) == 45) = true := by rw [h45]; rfl
        subst h45
        have HM := Lib.hid (show ∀ j, j < i + 1 → plB (l.getD j 0) = true from fun j hj => by
          rcases Nat.lt_succ_iff_lt_or_eq.1 hj with h | rfl
          · exact HE.out j h
          · rw [hx, e1]; first | (simp; done) | (simp; omega))
        clear hx HAi e1
        go_wp2_with fail
        go_roundw
        case rel => exact ⟨i + 1, by go_num, by omega, HM.out, by first | rfl | trivial⟩
        case measure => simp [intOf]; omega
      · have d1 : ((v : Int) == 45) = false := by simp; omega
        by_cases h97 : v < 97
        · have d2 : (v : Int) < 97 := by omega
          have HR := Lib.hid (HAi.out (by rw [e1]; first | (simp; done) | (simp; omega)))
          clear hx HAi e1
          go_wp2_with fail
          go_ret
          exact ⟨retv (vbool HR.out.symm), rfl⟩
        · have d2 : ¬ (v : Int) < 97 := by omega
          by_cases h122 : 122 < v
          · have d3 : (122 : Int) < v := by omega
            have HR := Lib.hid (HAi.out (by rw [e1]; first | (simp; done) | (simp; omega)))
            clear hx HAi e1
            go_wp2_with fail
            go_ret
            exact ⟨retv (vbool HR.out.symm), rfl⟩
          · have d3 : ¬ (122 : Int) < v := by omega
            have HM := Lib.hid (show ∀ j, j < i + 1 → plB (l.getD j 0) = true from fun j hj => by
              rcases Nat.lt_succ_iff_lt_or_eq.1 hj with h | rfl
              · exact HE.out j h
              · rw [hx, e1]; first | (simp; done) | (simp; omega))
            clear hx HAi e1
            go_wp2_with fail
            go_roundw
            case rel => exact ⟨i + 1, by go_num, by omega, HM.out, by first | rfl | trivial⟩
            case measure => simp [intOf]; omega
    · obtain rfl : i = n := by omega
      have HR := Lib.hid (HY.out HE.out)
      go_wp2_with fail
      go_ret
      exact ⟨retv (vbool HR.out.symm), rfl⟩
end Wo
end Go.Proofs.YtebdpdmkehfgfaaDoor
