/- sane: the chapter's examples. -/
import Derived.Test.YtebdpdmkehfgfaaDoorWoW
set_option linter.unusedVariables false
set_option linter.unusedSimpArgs false
namespace Go.Proofs.YtebdpdmkehfgfaaDoor
open Go.RowKit
namespace Wo
theorem bytes_self (a : ByteArray) : (a == a) = true := by
  show (a.data == a.data) = true
  simp
theorem eq_str (w : World) (a : ByteArray) : (Op.equalIn 9999 9 (.string a) (.string a)).run Tryd.prog w = .ok true w := by
  show (Op.equalIn (9998 + 1) 9 (.string a) (.string a)).run Tryd.prog w = .ok true w
  generalize 9998 = d
  simp [Op.equalIn, go_sem, bytes_self]
theorem eq_strs (w : World) (a b c : ByteArray) : (binOp .eql 49 (.agg #[.string a, .string b, .string c]) (.agg #[.string a, .string b, .string c])).run Tryd.prog w = .ok (.bool true) w := by
  have hu : Tryd.prog.underlying 49 = some (.array 3 9) := by kernel_rfl
  obtain ⟨i, hi⟩ : ∃ i, Tryd.prog.info? 9 = some i := ⟨_, rfl⟩
  have hc : Tryd.prog.cellsOf 9 = 1 := by kernel_rfl
  have hr : List.range 3 = [0, 1, 2] := rfl
  have key := run_equalIn_array (P := Tryd.prog) w 9999 #[.string a, .string b, .string c] #[.string a, .string b, .string c] hu hi
  rw [hc, hr] at key
  rw [run_eql_struct]
  rw [show (10000 : Nat) = 9999 + 1 from rfl, key]
  clear key hi hu
  simp only [Op.eqItems, Sem.run_bind]
  simp [go_sem, eq_str]
theorem ex0 (w : World) (T : Tab w) : Calls Tryd.prog 31 #[.int .i64 0] w fun e w' => e = .returned (.agg #[.string ⟨#[122, 101, 114, 111]⟩, .string ⟨#[110, 117, 108, 108]⟩, .string ⟨#[99, 101, 114, 111]⟩]) ∧ Below w.heap.size w w' := by
  have h := texts_any 0 0 rfl (by decide) w T
  rw [show (Value.agg #[sV (tx 0 0), sV (tx 1 0), sV (tx 2 0)]) = .agg #[.string ⟨#[122, 101, 114, 111]⟩, .string ⟨#[110, 117, 108, 108]⟩, .string ⟨#[99, 101, 114, 111]⟩] by kernel_rfl] at h
  exact h
theorem ex1 (w : World) (T : Tab w) : Calls Tryd.prog 31 #[.int .i64 21] w fun e w' => e = .returned (.agg #[.string ⟨#[116, 119, 101, 110, 116, 121, 45, 111, 110, 101]⟩, .string ⟨#[101, 105, 110, 117, 110, 100, 122, 119, 97, 110, 122, 105, 103]⟩, .string ⟨#[118, 101, 105, 110, 116, 105, 117, 110, 111]⟩]) ∧ Below w.heap.size w w' := by
  have h := texts_any 21 21 rfl (by decide) w T
  rw [show (Value.agg #[sV (tx 0 21), sV (tx 1 21), sV (tx 2 21)]) = .agg #[.string ⟨#[116, 119, 101, 110, 116, 121, 45, 111, 110, 101]⟩, .string ⟨#[101, 105, 110, 117, 110, 100, 122, 119, 97, 110, 122, 105, 103]⟩, .string ⟨#[118, 101, 105, 110, 116, 105, 117, 110, 111]⟩] by kernel_rfl] at h
  exact h
theorem ex2 (w : World) (T : Tab w) : Calls Tryd.prog 31 #[.int .i64 101] w fun e w' => e = .returned (.agg #[.string ⟨#[111, 110, 101, 32, 104, 117, 110, 100, 114, 101, 100, 32, 111, 110, 101]⟩, .string ⟨#[101, 105, 110, 104, 117, 110, 100, 101, 114, 116, 101, 105, 110, 115]⟩, .string ⟨#[99, 105, 101, 110, 116, 111, 32, 117, 110, 111]⟩]) ∧ Below w.heap.size w w' := by
  have h := texts_any 101 101 rfl (by decide) w T
  rw [show (Value.agg #[sV (tx 0 101), sV (tx 1 101), sV (tx 2 101)]) = .agg #[.string ⟨#[111, 110, 101, 32, 104, 117, 110, 100, 114, 101, 100, 32, 111, 110, 101]⟩, .string ⟨#[101, 105, 110, 104, 117, 110, 100, 101, 114, 116, 101, 105, 110, 115]⟩, .string ⟨#[99, 105, 101, 110, 116, 111, 32, 117, 110, 111]⟩] by kernel_rfl] at h
  exact h
theorem ex3 (w : World) (T : Tab w) : Calls Tryd.prog 31 #[.int .i64 31000] w fun e w' => e = .returned (.agg #[.string ⟨#[116, 104, 105, 114, 116, 121, 45, 111, 110, 101, 32, 116, 104, 111, 117, 115, 97, 110, 100]⟩, .string ⟨#[101, 105, 110, 117, 110, 100, 100, 114, 101, 105, 115, 115, 105, 103, 116, 97, 117, 115, 101, 110, 100]⟩, .string ⟨#[116, 114, 101, 105, 110, 116, 97, 32, 121, 32, 117, 110, 32, 109, 105, 108]⟩]) ∧ Below w.heap.size w w' := by
  have h := texts_any 31000 31000 rfl (by decide) w T
  rw [show (Value.agg #[sV (tx 0 31000), sV (tx 1 31000), sV (tx 2 31000)]) = .agg #[.string ⟨#[116, 104, 105, 114, 116, 121, 45, 111, 110, 101, 32, 116, 104, 111, 117, 115, 97, 110, 100]⟩, .string ⟨#[101, 105, 110, 117, 110, 100, 100, 114, 101, 105, 115, 115, 105, 103, 116, 97, 117, 115, 101, 110, 100]⟩, .string ⟨#[116, 114, 101, 105, 110, 116, 97, 32, 121, 32, 117, 110, 32, 109, 105, 108]⟩] by kernel_rfl] at h
  exact h
theorem ex4 (w : World) (T : Tab w) : Calls Tryd.prog 31 #[.int .i64 1100] w fun e w' => e = .returned (.agg #[.string ⟨#[111, 110, 101, 32, 116, 104, 111, 117, 115, 97, 110, 100, 32, 111, 110, 101, 32, 104, 117, 110, 100, 114, 101, 100]⟩, .string ⟨#[101, 105, 110, 116, 97, 117, 115, 101, 110, 100, 32, 101, 105, 110, 104, 117, 110, 100, 101, 114, 116]⟩, .string ⟨#[109, 105, 108, 32, 99, 105, 101, 110]⟩]) ∧ Below w.heap.size w w' := by
  have h := texts_any 1100 1100 rfl (by decide) w T
  rw [show (Value.agg #[sV (tx 0 1100), sV (tx 1 1100), sV (tx 2 1100)]) = .agg #[.string ⟨#[111, 110, 101, 32, 116, 104, 111, 117, 115, 97, 110, 100, 32, 111, 110, 101, 32, 104, 117, 110, 100, 114, 101, 100]⟩, .string ⟨#[101, 105, 110, 116, 97, 117, 115, 101, 110, 100, 32, 101, 105, 110, 104, 117, 110, 100, 101, 114, 116]⟩, .string ⟨#[109, 105, 108, 32, 99, 105, 101, 110]⟩] by kernel_rfl] at h
  exact h
theorem exP0 (o : Option Addr) (w : World) (T : Tab w) (h : Ws w o 3 3 [[116, 119, 111], [104, 117, 110, 100, 114, 101, 100], [112, 101, 111, 112, 108, 101]]) : Calls Tryd.prog 28 #[.int .i64 1, .slice o 3 3, .int .i64 0] w fun e w' => e = .returned (.tuple #[.int .i64 200, .int .i64 2, .bool true]) ∧ Below w.heap.size w w' := by
  have h := Prefix_any 1 0 o 3 3 [[116, 119, 111], [104, 117, 110, 100, 114, 101, 100], [112, 101, 111, 112, 108, 101]] w T rfl (by decide) (by decide) (by decide) h.small h.sl
  rw [show preV (pO 1 [[116, 119, 111], [104, 117, 110, 100, 114, 101, 100], [112, 101, 111, 112, 108, 101]] 0) = .tuple #[.int .i64 200, .int .i64 2, .bool true] by kernel_rfl] at h
  exact h
theorem exP1 (o : Option Addr) (w : World) (T : Tab w) (h : Ws w o 3 3 [[116, 119, 111], [104, 117, 110, 100, 114, 101, 100], [112, 101, 111, 112, 108, 101]]) : Calls Tryd.prog 28 #[.int .i64 1, .slice o 3 3, .int .i64 1] w fun e w' => e = .returned (.tuple #[.int .i64 0, .int .i64 0, .bool false]) ∧ Below w.heap.size w w' := by
  have h := Prefix_any 1 1 o 3 3 [[116, 119, 111], [104, 117, 110, 100, 114, 101, 100], [112, 101, 111, 112, 108, 101]] w T rfl (by decide) (by decide) (by decide) h.small h.sl
  rw [show preV (pO 1 [[116, 119, 111], [104, 117, 110, 100, 114, 101, 100], [112, 101, 111, 112, 108, 101]] 1) = .tuple #[.int .i64 0, .int .i64 0, .bool false] by kernel_rfl] at h
  exact h
theorem exP2 (o : Option Addr) (w : World) (T : Tab w) (h : Ws w o 3 3 [[116, 119, 111], [104, 117, 110, 100, 114, 101, 100], [112, 101, 111, 112, 108, 101]]) : Calls Tryd.prog 28 #[.int .i64 1, .slice o 3 3, .int .i64 2] w fun e w' => e = .returned (.tuple #[.int .i64 0, .int .i64 0, .bool false]) ∧ Below w.heap.size w w' := by
  have h := Prefix_any 1 2 o 3 3 [[116, 119, 111], [104, 117, 110, 100, 114, 101, 100], [112, 101, 111, 112, 108, 101]] w T rfl (by decide) (by decide) (by decide) h.small h.sl
  rw [show preV (pO 1 [[116, 119, 111], [104, 117, 110, 100, 114, 101, 100], [112, 101, 111, 112, 108, 101]] 2) = .tuple #[.int .i64 0, .int .i64 0, .bool false] by kernel_rfl] at h
  exact h
theorem exM (w : World) (T : Tab w) : Calls Tryd.prog 14 #[.int .i64 2, .int .i64 3] w fun e w' => e = .returned (.tuple #[.string ⟨#[109, 97, 101, 114, 122]⟩, .int .i64 0]) ∧ Below w.heap.size w w' := by
  have h := Month_any 2 3 w T (by decide)
  rw [show (Value.tuple #[sV (nm (mO 2) 1 3).1, .int .i64 (nm (mO 2) 1 3).2]) = .tuple #[.string ⟨#[109, 97, 101, 114, 122]⟩, .int .i64 0] by kernel_rfl] at h
  exact h
theorem exD (w : World) (T : Tab w) : Calls Tryd.prog 21 #[.int .i64 3, .string ⟨#[100, 111, 109, 105, 110, 103, 111]⟩] w fun e w' => e = .returned (.tuple #[.int .i64 6, .int .i64 0]) ∧ Below w.heap.size w w' := by
  have h := WeekdayOf_any 3 [100, 111, 109, 105, 110, 103, 111] w T
  rw [show (Value.tuple #[.int .i64 (nu (dO 3) 0 [100, 111, 109, 105, 110, 103, 111]).1, .int .i64 (nu (dO 3) 0 [100, 111, 109, 105, 110, 103, 111]).2]) = .tuple #[.int .i64 6, .int .i64 0] by kernel_rfl] at h
  exact h
theorem exW (w : World) (T : Tab w) : Calls Tryd.prog 12 #[.int .i64 4, .int .i64 0] w fun e w' => ∃ v, e = .returned (.tuple #[v, .int .i64 110]) ∧ Below w.heap.size w w' :=
  (Words_any 4 0 w T).mono fun e w' h => by
    obtain ⟨v, he, _, hb⟩ := h
    exact ⟨v, he.trans (by rw [show (wO 4 0).2 = 110 by kernel_rfl]), hb⟩
theorem exN (o : Option Addr) (w : World) (T : Tab w) (h : Ws w o 2 2 [mil, cien]) : Calls Tryd.prog 26 #[.int .i64 3, .slice o 2 2] w fun e w' => e = .returned (.tuple #[.int .i64 1100, .int .i64 0]) ∧ Below w.heap.size w w' := by
  have h := Number_any 3 o 2 2 [mil, cien] w T rfl (by decide) (by decide) (by decide) h.small h.sl
  rw [show numE (nO 3 [mil, cien]) = .tuple #[.int .i64 1100, .int .i64 0] by kernel_rfl] at h
  exact h
theorem exI (w : World) (T : Tab w) : Calls Tryd.prog 23 #[.int .i64 3, .string ⟨#[121]⟩] w fun e w' => e = .returned (.bool true) ∧ Below w.heap.size w w' := by
  have h := Is_any 3 [121] (by decide) w T
  rw [show iO 3 [121] = true by kernel_rfl] at h
  exact h
theorem exJ (w : World) (T : Tab w) : Calls Tryd.prog 23 #[.int .i64 1, .string ⟨#[112, 101, 111, 112, 108, 101]⟩] w fun e w' => e = .returned (.bool false) ∧ Below w.heap.size w w' := by
  have h := Is_any 1 [112, 101, 111, 112, 108, 101] (by decide) w T
  rw [show iO 1 [112, 101, 111, 112, 108, 101] = false by kernel_rfl] at h
  exact h
attribute [local go_sem high] eq_strs
set_option maxRecDepth 100000 in
set_option maxHeartbeats 2000000 in
theorem sane_any (w : World) (T : Tab w) : Calls Tryd.prog 10 #[] w fun e w' => e = .returned (.bool true) ∧ Below w.heap.size w w' := by
  have HT := Lib.hid T
  have BB := Lib.hid (Below.refl w.heap.size w)
  clear T
  go_enter Tryd.func10, Tryd.ntmps10
  go_wp2_with fail
  with_reducible refine Calls.mono (ex0 _ HT.out) ?_
  rintro e w1 ⟨rfl, hb⟩
  replace HT := Lib.hid (HT.out.next hb)
  replace BB := Lib.hid (Below.andThen BB.out hb)
  clear hb
  go_wp2_with fail
  with_reducible refine Calls.mono (ex1 _ HT.out) ?_
  rintro e w2 ⟨rfl, hb⟩
  replace HT := Lib.hid (HT.out.next hb)
  replace BB := Lib.hid (Below.andThen BB.out hb)
  clear hb
  go_wp2_with fail
  with_reducible refine Calls.mono (ex2 _ HT.out) ?_
  rintro e w3 ⟨rfl, hb⟩
  replace HT := Lib.hid (HT.out.next hb)
  replace BB := Lib.hid (Below.andThen BB.out hb)
  clear hb
  go_wp2_with fail
  with_reducible refine Calls.mono (ex3 _ HT.out) ?_
  rintro e w4 ⟨rfl, hb⟩
  replace HT := Lib.hid (HT.out.next hb)
  replace BB := Lib.hid (Below.andThen BB.out hb)
  clear hb
  go_wp2_with fail
  with_reducible refine Calls.mono (ex4 _ HT.out) ?_
  rintro e w5 ⟨rfl, hb⟩
  replace HT := Lib.hid (HT.out.next hb)
  replace BB := Lib.hid (Below.andThen BB.out hb)
  clear hb
  go_upto_region 4 with (fail)
  refine wp_named fun v5 hq => ?_
  obtain ⟨bP, ebP⟩ : ∃ b, b = w5.heap.size := ⟨_, rfl⟩
  have HS := Lib.hid (show Ws v5 (some ⟨bP, 0, none⟩) 3 3 [[116, 119, 111], [104, 117, 110, 100, 114, 101, 100], [112, 101, 111, 112, 108, 101]] from by rw [hq, ebP]; exact ws_new w5 _ [[116, 119, 111], [104, 117, 110, 100, 114, 101, 100], [112, 101, 111, 112, 108, 101]] rfl (by simp) (by decide) (by decide))
  have hb : Below w5.heap.size w5 v5 := by rw [hq]; exact (Below.refl _ _).alloc (Nat.le_refl _) _
  replace HT := Lib.hid (HT.out.next hb)
  replace BB := Lib.hid (Below.andThen BB.out hb)
  rw [← ebP]
  clear hq hb ebP
  go_wp2_with fail
  with_reducible refine Calls.mono (exP0 _ _ HT.out HS.out) ?_
  rintro e w6 ⟨rfl, hb⟩
  replace HT := Lib.hid (HT.out.next hb)
  replace HS := Lib.hid (HS.out.next hb)
  replace BB := Lib.hid (Below.andThen BB.out hb)
  clear hb
  go_wp2_with fail
  with_reducible refine Calls.mono (exP1 _ _ HT.out HS.out) ?_
  rintro e w7 ⟨rfl, hb⟩
  replace HT := Lib.hid (HT.out.next hb)
  replace HS := Lib.hid (HS.out.next hb)
  replace BB := Lib.hid (Below.andThen BB.out hb)
  clear hb
  go_wp2_with fail
  with_reducible refine Calls.mono (exP2 _ _ HT.out HS.out) ?_
  rintro e w8 ⟨rfl, hb⟩
  replace HT := Lib.hid (HT.out.next hb)
  replace HS := Lib.hid (HS.out.next hb)
  replace BB := Lib.hid (Below.andThen BB.out hb)
  clear hb
  go_wp2_with fail
  with_reducible refine Calls.mono (exM _ HT.out) ?_
  rintro e w9 ⟨rfl, hb⟩
  replace HT := Lib.hid (HT.out.next hb)
  replace BB := Lib.hid (Below.andThen BB.out hb)
  clear hb
  go_wp2_with fail
  with_reducible refine Calls.mono (exD _ HT.out) ?_
  rintro e w10 ⟨rfl, hb⟩
  replace HT := Lib.hid (HT.out.next hb)
  replace BB := Lib.hid (Below.andThen BB.out hb)
  clear hb
  go_wp2_with fail
  with_reducible refine Calls.mono (exW _ HT.out) ?_
  rintro e w11 ⟨vw, rfl, hb⟩
  replace HT := Lib.hid (HT.out.next hb)
  replace BB := Lib.hid (Below.andThen BB.out hb)
  clear hb
  go_wp2_with fail
  refine calls_named fun v11 hq => ?_
  obtain ⟨b1, ebb1⟩ : ∃ b, b = w11.heap.size := ⟨_, rfl⟩
  have R1 := Lib.hid (show Ws v11 (some ⟨b1, 0, none⟩) 2 2 [mil, cien] from by rw [hq, ebb1]; exact ws_new _ _ [mil, cien] rfl (by simp) (by decide) (by decide))
  have hb : Below w11.heap.size w11 v11 := by rw [hq]; exact (Below.refl _ _).alloc (Nat.le_refl _) _
  replace HT := Lib.hid (HT.out.next hb)
  replace BB := Lib.hid (Below.andThen BB.out hb)
  rw [← ebb1]
  clear hq hb ebb1
  with_reducible refine Calls.mono (exN _ _ HT.out R1.out) ?_
  rintro e w12 ⟨rfl, hb⟩
  replace HT := Lib.hid (HT.out.next hb)
  replace BB := Lib.hid (Below.andThen BB.out hb)
  clear hb
  go_wp2_with fail
  with_reducible refine Calls.mono (exI _ HT.out) ?_
  rintro e w13 ⟨rfl, hb⟩
  replace HT := Lib.hid (HT.out.next hb)
  replace BB := Lib.hid (Below.andThen BB.out hb)
  clear hb
  go_wp2_with fail
  with_reducible refine Calls.mono (exJ _ HT.out) ?_
  rintro e w14 ⟨rfl, hb⟩
  replace HT := Lib.hid (HT.out.next hb)
  replace BB := Lib.hid (Below.andThen BB.out hb)
  clear hb
  go_wp2_with fail
  go_ret
  exact ⟨rfl, BB.out⟩
end Wo
end Go.Proofs.YtebdpdmkehfgfaaDoor
