/- the reference: None, compare, sameLock. -/
import Derived.Test.YthjolojpjajppaaGreatLbJ
import Derived.BigRegion
set_option linter.unusedVariables false
set_option linter.unusedSimpArgs false
set_option linter.unnecessarySimpa false
namespace Go.Proofs.YthjolojpjajppaaGreat
open Go.RowKit
namespace Lb
open Sq
theorem rNone_any (w : World) : Calls Tryz.prog 36 #[] w fun e w' => e = .returned noneL.v ∧ Below w.heap.size w w' := by
  unfold Lb.v noneL
  dsimp only
  go_enter Tryz.func36, Tryz.ntmps36
  go_wp2_with fail
  refine bodyPost_ret (v := .agg #[.int .i64 0, .slice none 0 0, .slice none 0 0, .int .i64 255, .int .i64 255, .slice none 0 0]) (by first | (simp [results, Tryz.results36, go_sem]; done) | simp [results, Tryz.results36, go_sem, *]) rfl ⟨rfl, by (repeat' first | exact Below.refl _ _ | assumption | (refine below_drewN ?_ _) | (refine Below.drew ?_) | (refine Below.alloc ?_ ?_ _) | (refine Below.setCell ?_ ?_ _) | (simp; done) | (simp; omega) | omega)⟩
/-- comparison by differences -/
def rcmp : List Int → List Int → Int
  | a :: l, b :: m => if a = b then rcmp l m else wrap64 (a - b)
  | l, m => (l.length : Int) - m.length
theorem rcmp_end {l m : List Int} (h : l = [] ∨ m = []) : rcmp l m = (l.length : Int) - m.length := by
  rcases h with rfl | rfl
  · rfl
  · cases l <;> rfl
theorem drop_cons {α : Type} {l : List α} {k : Nat} {x : α} (h : l[k]? = some x) : l.drop k = x :: l.drop (k + 1) := by
  obtain ⟨h1, h2⟩ := List.getElem?_eq_some_iff.1 h
  rw [List.drop_eq_getElem_cons h1, h2]
set_option maxRecDepth 100000 in
set_option maxHeartbeats 4000000 in
theorem rcmp_any (o : Option Addr) (n c : Nat) (l : List Int) (o2 : Option Addr) (n2 c2 : Nat) (m : List Int) (w : World) (h : Sv intE w o n c l) (h2 : Sv intE w o2 n2 c2 m) (hn : n ≤ 1000000) (hn2 : n2 ≤ 1000000) :
    Calls Tryz.prog 66 #[.slice o n c, .slice o2 n2 c2] w fun e w' => e = .returned (.int .i64 (rcmp l m)) ∧ Below w.heap.size w w' := by
  have S1 := Lib.hid h
  have S2 := Lib.hid h2
  clear h h2
  obtain ⟨R, hR⟩ : ∃ R, rcmp l m = R := ⟨_, rfl⟩
  rw [hR]
  have HR := Lib.hid hR
  clear hR
  go_enter Tryz.func66, Tryz.ntmps66
  go_wp2_with fail
  go_loopw [5] (fun jv wr => ∃ k : Nat, jv = .int .i64 k ∧ k ≤ n ∧ k ≤ n2 ∧ rcmp (l.drop k) (m.drop k) = R ∧ Below w.heap.size w wr) (fun jv _ => n - (intOf jv).toNat)
  case atStart => exact ⟨0, rfl, Nat.zero_le _, Nat.zero_le _, HR.out, Below.refl _ _⟩
  case round =>
    obtain ⟨k, rfl, hk, hk2, hd, hB⟩ := hrel
    rename World => wr
    have BB := Lib.hid hB
    have HD := Lib.hid hd
    clear hB hd HR
    by_cases hlt : k < n
    · by_cases hlt2 : k < n2
      · obtain ⟨x, hx⟩ := Lb.get_some S1.out.len hlt
        obtain ⟨y, hy⟩ := Lb.get_some S2.out.len hlt2
        obtain ⟨b1, off1, rfl, l1, c1⟩ := int_at (S1.out.next BB.out) hx
        obtain ⟨b2, off2, rfl, l2, c2'⟩ := int_at (S2.out.next BB.out) hy
        have HD2 := Lib.hid (show (if x = y then rcmp (l.drop (k + 1)) (m.drop (k + 1)) else wrap64 (x - y)) = R by rw [← HD.out, drop_cons hx, drop_cons hy]; rfl)
        have d1 : wr.drew.cell? ⟨b1, off1 + k, none⟩ = some (.int .i64 x) := c1
        have d2 : wr.drew.cell? ⟨b2, off2 + k, none⟩ = some (.int .i64 y) := c2'
        have d3 : wr.drew.drew.cell? ⟨b1, off1 + k, none⟩ = some (.int .i64 x) := c1
        have d4 : wr.drew.drew.cell? ⟨b2, off2 + k, none⟩ = some (.int .i64 y) := c2'
        clear hx hy
        obtain ⟨z, hz⟩ : ∃ z, (x == y) = z := ⟨_, rfl⟩
        have hz2 : (x != y) = !z := by rw [← hz]; rfl
        cases z with
        | true =>
          have HE := Lib.hid (show rcmp (l.drop (k + 1)) (m.drop (k + 1)) = R by rw [← HD2.out, if_pos (by simpa using hz)])
          go_wp2_with fail
          go_region
          all_goals
            go_wp2_with fail
            go_roundw
            case rel => exact ⟨k + 1, by go_num, by omega, by omega, HE.out, BB.out.drew⟩
            case measure => first | (simp [intOf]; done) | (simp [intOf]; omega)
        | false =>
          have HE := Lib.hid (show wrap64 (x - y) = R by rw [← HD2.out, if_neg (by simpa using hz)])
          go_wp2_with fail
          go_region
          all_goals
            go_wp2_with fail
            go_region
            all_goals
              go_wp2_with fail
              go_ret
              exact ⟨by rw [← HE.out]; rfl, BB.out.drew.drew⟩
      · obtain rfl : k = n2 := by omega
        have HE := Lib.hid (show (n : Int) - k = R by rw [← HD.out, rcmp_end (.inr (List.drop_of_length_le (by rw [S2.out.len]; exact Nat.le_refl _))), List.length_drop, List.length_drop, S1.out.len, S2.out.len]; omega)
        go_wp2_with fail
        go_ret
        exact ⟨by rw [← HE.out]; rfl, BB.out⟩
    · obtain rfl : k = n := by omega
      have HE := Lib.hid (show (k : Int) - n2 = R by rw [← HD.out, rcmp_end (.inl (List.drop_of_length_le (by rw [S1.out.len]; exact Nat.le_refl _))), List.length_drop, List.length_drop, S1.out.len, S2.out.len]; omega)
      go_wp2_with fail
      go_ret
      exact ⟨by rw [← HE.out]; rfl, BB.out⟩
/-- numbers that a machine holds -/
def inM (l : List Int) : Prop := ∀ x ∈ l, -9223372036854775808 ≤ x ∧ x ≤ 9223372036854775807
theorem rcmp_zero : ∀ (l m : List Int), inM l → inM m → (rcmp l m = 0 ↔ l = m)
  | [], [], _, _ => by simp [rcmp]
  | [], _ :: _, _, _ => by simp [rcmp]; omega
  | _ :: _, [], _, _ => by simp [rcmp]; omega
  | a :: l, b :: m, hl, hm => by
    have h1 := hl a (List.mem_cons_self ..)
    have h2 := hm b (List.mem_cons_self ..)
    by_cases e : a = b
    · subst e
      rw [show rcmp (a :: l) (a :: m) = rcmp l m from if_pos rfl, rcmp_zero l m (fun x hx => hl x (List.mem_cons_of_mem _ hx)) (fun x hx => hm x (List.mem_cons_of_mem _ hx))]
      simp
    · rw [show rcmp (a :: l) (b :: m) = wrap64 (a - b) from if_neg e]
      constructor
      · intro h
        exfalso
        unfold wrap64 at h
        omega
      · intro h
        cases h
        exact absurd rfl e
/-- the same lock, for the reference -/
def rsK (x y : Lk) : Bool := decide (x.need = y.need) && decide (rcmp x.keys y.keys = 0)
set_option maxRecDepth 100000 in
set_option maxHeartbeats 2000000 in
theorem rsK_any (x y : Lk) (w : World) (hx : x.ok w) (hy : y.ok w) (hn : x.n ≤ 1000000) (hn2 : y.n ≤ 1000000) : Calls Tryz.prog 65 #[lkV x, lkV y] w fun e w' => e = .returned (.bool (rsK x y)) ∧ Below w.heap.size w w' := by
  obtain ⟨xneed, xo, xn, xc, xkeys⟩ := x
  obtain ⟨yneed, yo, yn, yc, ykeys⟩ := y
  have CC := Lib.hid (fun W (h : Sv intE W xo xn xc xkeys) (h2 : Sv intE W yo yn yc ykeys) => rcmp_any xo xn xc xkeys yo yn yc ykeys W h h2 hn hn2)
  have SX := Lib.hid (show Sv intE w xo xn xc xkeys from hx)
  have SY := Lib.hid (show Sv intE w yo yn yc ykeys from hy)
  unfold lkV rsK
  dsimp only
  generalize rcmp xkeys ykeys = r at *
  obtain ⟨z, hz⟩ : ∃ z, decide (xneed = yneed) = z := ⟨_, rfl⟩
  have hz2 : (xneed == yneed) = z := by rw [← hz]; rfl
  obtain ⟨z3, hz3⟩ : ∃ z, decide (r = 0) = z := ⟨_, rfl⟩
  have hz4 : (r == 0) = z3 := by rw [← hz3]; rfl
  rw [hz, hz3]
  clear hx hy hn hn2
  cases z with
  | true =>
    go_enter Tryz.func65, Tryz.ntmps65
    go_wp2_with (go_at_call 66; (with_reducible refine Calls.mono (CC.out _ (SX.out.next (by (repeat' first | exact Below.refl _ _ | assumption | (refine below_drewN ?_ _) | (refine Below.drew ?_) | (refine Below.alloc ?_ ?_ _) | (refine Below.setCell ?_ ?_ _) | (simp; done) | (simp; omega) | omega))) (SY.out.next (by (repeat' first | exact Below.refl _ _ | assumption | (refine below_drewN ?_ _) | (refine Below.drew ?_) | (refine Below.alloc ?_ ?_ _) | (refine Below.setCell ?_ ?_ _) | (simp; done) | (simp; omega) | omega)))) ?_); rintro e w2 ⟨rfl, hb⟩; have HB := Lib.hid (show Below w.heap.size w w2 from Below.andThen (by (repeat' first | exact Below.refl _ _ | assumption | (refine below_drewN ?_ _) | (refine Below.drew ?_) | (refine Below.alloc ?_ ?_ _) | (refine Below.setCell ?_ ?_ _) | (simp; done) | (simp; omega) | omega)) hb); clear hb)
    go_ret
    exact ⟨by simp [hz4], HB.out⟩
  | false =>
    go_enter Tryz.func65, Tryz.ntmps65
    go_wp2_with fail
    go_ret
    exact ⟨rfl, by (repeat' first | exact Below.refl _ _ | assumption | (refine below_drewN ?_ _) | (refine Below.drew ?_) | (refine Below.alloc ?_ ?_ _) | (refine Below.setCell ?_ ?_ _) | (simp; done) | (simp; omega) | omega)⟩
end Lb
end Go.Proofs.YthjolojpjajppaaGreat
