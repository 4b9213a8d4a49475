/- Labels: elements and slices of them. -/
/- cmp.Compare, cmp.Or; slices.Compare, Index, Contains, Equal of numbers. -/
/- slices.Index, Contains, Equal of numbers. -/
import Derived.Test.YthjolojpjajppaaGreatLGA
set_option linter.unusedVariables false
set_option linter.unusedSimpArgs false
set_option linter.unnecessarySimpa false
namespace Go.Proofs.YthjolojpjajppaaGreat
open Go.RowKit
namespace Lb
open Sq
def inI (n : Int) : Prop := -9223372036854775808 ≤ n ∧ n ≤ 9223372036854775807
/-- numbers -/
def intE : El Int := ⟨1, fun x => [.int .i64 x], by decide, fun _ => rfl, fun x u hu => by simp at hu; rw [hu]; rfl⟩
/-- confirmations -/
structure Cn where
  fact : Int
  cnt : Int
instance : DecidableEq Cn := fun a b => decidable_of_iff (a.fact = b.fact ∧ a.cnt = b.cnt) ⟨fun h => by cases a; cases b; simp_all, fun h => by subst h; simp⟩
def cnE : El Cn := ⟨2, fun x => [.int .i64 x.fact, .int .i64 x.cnt], by decide, fun _ => rfl, fun x u hu => by simp at hu; rcases hu with rfl | rfl <;> rfl⟩
/-- locks, as they lie in memory -/
structure Lk where
  need : Int
  o : Option Addr
  n : Nat
  c : Nat
  keys : List Int
def lkE : El Lk := ⟨2, fun x => [.int .i64 x.need, .slice x.o x.n x.c], by decide, fun _ => rfl, fun x u hu => by simp at hu; rcases hu with rfl | rfl <;> rfl⟩
section
variable {α : Type} {E : El α}
/-- a slice with these elements -/
def Sv (E : El α) (w : World) (o : Option Addr) (n c : Nat) (l : List α) : Prop := l.length = n ∧ n ≤ c ∧ c ≤ 9223372036854775807 ∧ (o = none → c = 0) ∧ Sl E w o l
theorem Sv.next {w w' : World} {o : Option Addr} {n c : Nat} {l : List α} (h : Sv E w o n c l) (hb : Below w.heap.size w w') : Sv E w' o n c l := ⟨h.1, h.2.1, h.2.2.1, h.2.2.2.1, h.2.2.2.2.next hb⟩
theorem Sv.len {w : World} {o : Option Addr} {n c : Nat} {l : List α} (h : Sv E w o n c l) : l.length = n := h.1
theorem sv_nil (w : World) : Sv E w none 0 0 [] := ⟨rfl, Nat.le_refl _, by decide, fun _ => rfl, .inl rfl⟩
theorem own_sv {e : TypeId} {w : World} {B0 : Nat} {v : Value} {l : List α} (h : Own E e w B0 v l) : ∃ o c, v = .slice o l.length c ∧ Sv E w o l.length c l := by
  obtain ⟨o, c, e, h1, h2, h3, h4⟩ := h.vw
  exact ⟨o, c, e, rfl, h1, h2, h3, h4⟩
theorem own_sv' {e : TypeId} {w : World} {B0 n c : Nat} {o : Option Addr} {l : List α} (h : Own E e w B0 (.slice o n c) l) : Sv E w o n c l := by
  obtain ⟨o', c', e, h1, h2, h3, h4⟩ := h.vw
  cases e
  exact ⟨rfl, h1, h2, h3, h4⟩
theorem Sv.take {w : World} {o : Option Addr} {n c m : Nat} {l : List α} (h : Sv E w o n c l) (hm : m ≤ n) : Sv E w o m c (l.take m) :=
  ⟨by rw [List.length_take, h.1]; omega, by have := h.2.1; omega, h.2.2.1, h.2.2.2.1, h.2.2.2.2.take m⟩
/-- the cells of an element -/
theorem Sv.at {w : World} {o : Option Addr} {n c : Nat} {l : List α} (h : Sv E w o n c l) {k : Nat} (hk : k < n) : ∃ b off x, o = some ⟨b, off, none⟩ ∧ b < w.heap.size ∧ l[k]? = some x ∧ ∀ (i : Nat) v, (E.f x)[i]? = some v → w.cell? ⟨b, off + k * E.k + i, none⟩ = some v := by
  have hkl : k < l.length := by rw [h.1]; exact hk
  obtain ⟨b, off, e, hb, hc⟩ := h.2.2.2.2.cells (fun e => by rw [e] at hkl; exact absurd hkl (Nat.not_lt_zero _))
  exact ⟨b, off, l[k], e, hb, List.getElem?_eq_getElem hkl, hc k _ (List.getElem?_eq_getElem hkl)⟩
theorem Sv.some {w : World} {o : Option Addr} {n c : Nat} {l : List α} (h : Sv E w o n c l) (hn : 0 < n) : ∃ b off, o = some ⟨b, off, none⟩ ∧ b < w.heap.size := by
  obtain ⟨b, off, _, e, hb, _⟩ := h.at hn
  exact ⟨b, off, e, hb⟩
/-- the slice from k on -/
theorem Sv.drop {w : World} {b off n c : Nat} {l : List α} (h : Sv E w (.some ⟨b, off, none⟩) n c l) (k : Nat) (hk : k ≤ n) : Sv E w (.some ⟨b, off + k * E.k, none⟩) (n - k) (c - k) (l.drop k) :=
  ⟨by rw [List.length_drop, h.1], by have := h.2.1; omega, by have := h.2.2.1; omega, fun e => (by cases e), h.2.2.2.2.drop k⟩
end
theorem int_at {w : World} {o : Option Addr} {n c : Nat} {l : List Int} (h : Sv intE w o n c l) {k : Nat} {x : Int} (hx : l[k]? = some x) : ∃ b off, o = some ⟨b, off, none⟩ ∧ b < w.heap.size ∧ w.cell? ⟨b, off + k, none⟩ = some (.int .i64 x) := by
  have hk : k < n := by rw [← h.1]; exact (List.getElem?_eq_some_iff.1 hx).1
  obtain ⟨b, off, y, e, hb, hy, hc⟩ := h.at hk
  rw [hx] at hy
  cases hy
  have := hc 0 _ rfl
  rw [show off + k * intE.k + 0 = off + k from by show off + k * 1 + 0 = _; omega] at this
  exact ⟨b, off, e, hb, this⟩
theorem int_here {w : World} {b off n c : Nat} {l : List Int} (h : Sv intE w (some ⟨b, off, none⟩) n c l) {k : Nat} {x : Int} (hx : l[k]? = some x) : b < w.heap.size ∧ w.cell? ⟨b, off + k, none⟩ = some (.int .i64 x) := by
  obtain ⟨b', off', e, h1, h2⟩ := int_at h hx
  cases e
  exact ⟨h1, h2⟩
theorem cn_at {w : World} {o : Option Addr} {n c : Nat} {l : List Cn} (h : Sv cnE w o n c l) {k : Nat} {x : Cn} (hx : l[k]? = some x) : ∃ b off, o = some ⟨b, off, none⟩ ∧ b < w.heap.size ∧ w.cell? ⟨b, off + k * 2, none⟩ = some (.int .i64 x.fact) ∧ w.cell? ⟨b, off + k * 2 + 1, none⟩ = some (.int .i64 x.cnt) := by
  have hk : k < n := by rw [← h.1]; exact (List.getElem?_eq_some_iff.1 hx).1
  obtain ⟨b, off, y, e, hb, hy, hc⟩ := h.at hk
  rw [hx] at hy
  cases hy
  exact ⟨b, off, e, hb, hc 0 _ rfl, hc 1 _ rfl⟩
theorem cn_here {w : World} {b off n c : Nat} {l : List Cn} (h : Sv cnE w (some ⟨b, off, none⟩) n c l) {k : Nat} {x : Cn} (hx : l[k]? = some x) : b < w.heap.size ∧ w.cell? ⟨b, off + k * 2, none⟩ = some (.int .i64 x.fact) ∧ w.cell? ⟨b, off + k * 2 + 1, none⟩ = some (.int .i64 x.cnt) := by
  obtain ⟨b', off', e, h1, h2⟩ := cn_at h hx
  cases e
  exact ⟨h1, h2⟩
theorem lk_at {w : World} {o : Option Addr} {n c : Nat} {l : List Lk} (h : Sv lkE w o n c l) {k : Nat} {x : Lk} (hx : l[k]? = some x) : ∃ b off, o = some ⟨b, off, none⟩ ∧ b < w.heap.size ∧ w.cell? ⟨b, off + k * 2, none⟩ = some (.int .i64 x.need) ∧ w.cell? ⟨b, off + k * 2 + 1, none⟩ = some (.slice x.o x.n x.c) := by
  have hk : k < n := by rw [← h.1]; exact (List.getElem?_eq_some_iff.1 hx).1
  obtain ⟨b, off, y, e, hb, hy, hc⟩ := h.at hk
  rw [hx] at hy
  cases hy
  exact ⟨b, off, e, hb, hc 0 _ rfl, hc 1 _ rfl⟩
theorem lk_here {w : World} {b off n c : Nat} {l : List Lk} (h : Sv lkE w (some ⟨b, off, none⟩) n c l) {k : Nat} {x : Lk} (hx : l[k]? = some x) : b < w.heap.size ∧ w.cell? ⟨b, off + k * 2, none⟩ = some (.int .i64 x.need) ∧ w.cell? ⟨b, off + k * 2 + 1, none⟩ = some (.slice x.o x.n x.c) := by
  obtain ⟨b', off', e, h1, h2⟩ := lk_at h hx
  cases e
  exact ⟨h1, h2⟩
/-- a lock's keys lie in memory -/
def Lk.ok (w : World) (x : Lk) : Prop := Sv intE w x.o x.n x.c x.keys
theorem Lk.ok.next {w w' : World} {x : Lk} (h : x.ok w) (hb : Below w.heap.size w w') : x.ok w' := Sv.next h hb
/-- locks -/
def Lv (w : World) (o : Option Addr) (n c : Nat) (l : List Lk) : Prop := Sv lkE w o n c l ∧ ∀ x ∈ l, x.ok w
theorem Lv.next {w w' : World} {o : Option Addr} {n c : Nat} {l : List Lk} (h : Lv w o n c l) (hb : Below w.heap.size w w') : Lv w' o n c l := ⟨h.1.next hb, fun x hx => (h.2 x hx).next hb⟩
abbrev ptV (b : Nat) : Value := .pointer (some ⟨b, 0, none⟩)
def cnV (x : Cn) : Value := .agg #[.int .i64 x.fact, .int .i64 x.cnt]
def lkV (x : Lk) : Value := .agg #[.int .i64 x.need, .slice x.o x.n x.c]
/-- one name for an element -/
theorem get_some {α : Type} {l : List α} {k n : Nat} (hl : l.length = n) (hk : k < n) : ∃ x, l[k]? = some x := ⟨l[k]'(by omega), List.getElem?_eq_getElem (by omega)⟩
/-- is strictly ascending -/
def ascB {α : Type} (f : α → α → Bool) : List α → Bool
  | [] => true
  | [_] => true
  | a :: b :: l => f a b && ascB f (b :: l)
theorem ascB_iff {α : Type} {f : α → α → Bool} : ∀ {l : List α}, ascB f l = true ↔ ∀ (k : Nat) x y, l[k]? = some x → l[k + 1]? = some y → f x y = true
  | [] => by simp [ascB]
  | [a] => by simp [ascB]
  | a :: b :: l => by
    unfold ascB
    rw [Bool.and_eq_true, ascB_iff (l := b :: l)]
    constructor
    · rintro ⟨h1, h2⟩ k x y hx hy
      cases k with
      | zero => cases hx; cases hy; exact h1
      | succ k => exact h2 k x y hx hy
    · intro h
      exact ⟨h 0 a b rfl rfl, fun k x y hx hy => h (k + 1) x y hx hy⟩
theorem all_iff {α : Type} {f : α → Bool} {l : List α} : l.all f = true ↔ ∀ (k : Nat) x, l[k]? = some x → f x = true := by
  rw [List.all_eq_true]
  exact ⟨fun h k x hx => h x (List.mem_of_getElem? hx), fun h x hx => by obtain ⟨k, hk⟩ := List.mem_iff_getElem?.1 hx; exact h k x hk⟩
theorem bool_of {b : Bool} {P : Prop} (h : b = true ↔ P) : (P → b = true) ∧ (¬ P → b = false) := ⟨h.2, fun hn => by cases b with | false => rfl | true => exact absurd (h.1 rfl) hn⟩
/-- comparisons -/
def cmpI (a b : Int) : Int := if a < b then -1 else if a > b then 1 else 0
def cmpL : List Int → List Int → Int
  | [], [] => 0
  | [], _ :: _ => -1
  | _ :: _, [] => 1
  | a :: l, b :: m => if cmpI a b = 0 then cmpL l m else cmpI a b
def orI : List Int → Int
  | [] => 0
  | a :: l => if a = 0 then orI l else a
def cmpK (x y : Lk) : Int := orI [cmpI x.need y.need, cmpL x.keys y.keys]
def cmpC (x y : Cn) : Int := cmpI x.fact y.fact
/-- numbers from a to b, strictly ascending -/
def numB (l : List Int) (a b : Int) : Bool := (l.isEmpty || (decide (a ≤ l.headD 0) && decide (l.getLastD 0 ≤ b))) && ascB (fun x y => decide (x < y)) l
end Lb
end Go.Proofs.YthjolojpjajppaaGreat
set_option linter.unusedVariables false
set_option linter.unusedSimpArgs false
set_option linter.unnecessarySimpa false
namespace Go.Proofs.YthjolojpjajppaaGreat
open Go.RowKit
namespace Lb
open Sq
theorem isNaN_any (a : Int) (w : World) : Calls Tryz.prog 104 #[.int .i64 a] w fun e w' => e = .returned (.bool false) ∧ w' = w := by
  go_enter Tryz.func104, Tryz.ntmps104
  go_wp2_with fail
  go_ret
  exact ⟨by simp, rfl⟩
theorem Compare_any (a b : Int) (w : World) : Calls Tryz.prog 56 #[.int .i64 a, .int .i64 b] w fun e w' => e = .returned (.int .i64 (cmpI a b)) ∧ w' = w := by
  have CN := Lib.hid isNaN_any
  by_cases h1 : a < b
  · have HE := Lib.hid (show cmpI a b = -1 from if_pos h1)
    go_enter Tryz.func56, Tryz.ntmps56
    go_wp2_with (go_at_call 104; with_reducible refine Calls.mono (CN.out _ _) ?_; rintro e w' ⟨rfl, rfl⟩)
    go_ret
    exact ⟨by rw [HE.out]; rfl, rfl⟩
  · by_cases h2 : b < a
    · have HE := Lib.hid (show cmpI a b = 1 by unfold cmpI; rw [if_neg h1, if_pos h2])
      go_enter Tryz.func56, Tryz.ntmps56
      go_wp2_with (go_at_call 104; with_reducible refine Calls.mono (CN.out _ _) ?_; rintro e w' ⟨rfl, rfl⟩)
      go_ret
      exact ⟨by rw [HE.out]; rfl, rfl⟩
    · have HE := Lib.hid (show cmpI a b = 0 by unfold cmpI; rw [if_neg h1, if_neg h2])
      go_enter Tryz.func56, Tryz.ntmps56
      go_wp2_with (go_at_call 104; with_reducible refine Calls.mono (CN.out _ _) ?_; rintro e w' ⟨rfl, rfl⟩)
      go_ret
      exact ⟨by rw [HE.out]; rfl, rfl⟩
theorem drop_at {α : Type} {l : List α} {k : Nat} {x : α} (h : l[k]? = some x) : l.drop k = x :: l.drop (k + 1) := by
  obtain ⟨hk, rfl⟩ := List.getElem?_eq_some_iff.1 h
  exact List.drop_eq_getElem_cons hk
set_option maxRecDepth 100000 in
theorem Or_any (o : Option Addr) (n c : Nat) (l : List Int) (w : World) (h : Sv intE w o n c l) :
    Calls Tryz.prog 98 #[.slice o n c] w fun e w' => e = .returned (.int .i64 (orI l)) ∧ w' = w := by
  have SV := Lib.hid h
  have hn : n ≤ 9223372036854775807 := by have := h.2.1; have := h.2.2.1; omega
  obtain ⟨R, hR⟩ : ∃ R, orI l = R := ⟨_, rfl⟩
  have HR := Lib.hid hR
  rw [hR]
  clear h hR
  go_enter Tryz.func98, Tryz.ntmps98
  go_wp2_with fail
  go_loopw [8] (fun jv wr => ∃ k : Nat, jv = .int .i64 k ∧ k ≤ n ∧ orI (l.drop k) = R ∧ wr = w) (fun jv _ => n - (intOf jv).toNat)
  case atStart => exact ⟨0, rfl, Nat.zero_le _, HR.out, rfl⟩
  case round =>
    obtain ⟨k, rfl, hk, hor, rfl⟩ := hrel
    have HO := Lib.hid hor
    clear hor
    by_cases hlt : k < n
    · obtain ⟨x, hx⟩ := get_some SV.out.len hlt
      obtain ⟨b, off, rfl, lb, cx⟩ := int_at SV.out hx
      have HD := Lib.hid (drop_at hx)
      clear hx
      by_cases h0 : x = 0
      · have HO2 := Lib.hid (show orI (l.drop (k + 1)) = R by rw [← HO.out, HD.out]; exact (if_pos h0).symm)
        have h0' : decide (x = 0) = true := decide_eq_true h0
        go_wp2_with fail
        go_roundw
        case rel => exact ⟨k + 1, by go_num, by omega, HO2.out, by trivial⟩
        case measure => first | (simp [intOf]; done) | (simp [intOf]; omega)
      · have HE := Lib.hid (show R = x by rw [← HO.out, HD.out]; exact if_neg h0)
        go_wp2_with fail
        go_ret
        exact ⟨by rw [HE.out]; rfl, rfl⟩
    · obtain rfl : k = n := by omega
      have HE := Lib.hid (show R = 0 by rw [← HO.out, List.drop_of_length_le (by rw [SV.out.len]; exact Nat.le_refl _)]; rfl)
      go_wp2_with fail
      go_ret
      exact ⟨by rw [HE.out]; rfl, rfl⟩
set_option maxRecDepth 100000 in
theorem CompareS_any (o : Option Addr) (n c : Nat) (l : List Int) (o2 : Option Addr) (n2 c2 : Nat) (m : List Int) (w : World) (h : Sv intE w o n c l) (h2 : Sv intE w o2 n2 c2 m) :
    Calls Tryz.prog 99 #[.slice o n c, .slice o2 n2 c2] w fun e w' => e = .returned (.int .i64 (cmpL l m)) ∧ w' = w := by
  have SV := Lib.hid h
  have SW := Lib.hid h2
  have CC := Lib.hid Compare_any
  have hn : n ≤ 9223372036854775807 := by have := h.2.1; have := h.2.2.1; omega
  obtain ⟨R, hR⟩ : ∃ R, cmpL l m = R := ⟨_, rfl⟩
  have HR := Lib.hid hR
  rw [hR]
  clear h h2 hR
  go_enter Tryz.func99, Tryz.ntmps99
  go_wp2_with fail
  go_loopw [11] (fun jv wr => ∃ k : Nat, jv = .int .i64 k ∧ k ≤ n ∧ k ≤ n2 ∧ cmpL (l.drop k) (m.drop k) = R ∧ wr = w) (fun jv _ => n - (intOf jv).toNat)
  case atStart => exact ⟨0, rfl, Nat.zero_le _, Nat.zero_le _, HR.out, rfl⟩
  case round =>
    obtain ⟨k, rfl, hk, hk2, hor, rfl⟩ := hrel
    have HO := Lib.hid hor
    clear hor
    by_cases hlt : k < n
    · obtain ⟨x, hx⟩ := get_some SV.out.len hlt
      obtain ⟨b, off, rfl, lb, cx⟩ := int_at SV.out hx
      have HD := Lib.hid (drop_at hx)
      clear hx
      by_cases hl2 : k < n2
      · obtain ⟨y, hy⟩ := get_some SW.out.len hl2
        obtain ⟨b2, off2, rfl, lb2, cy⟩ := int_at SW.out hy
        have HD2 := Lib.hid (drop_at hy)
        clear hy
        have CC2 := Lib.hid (fun W => CC.out x y W)
        have HO3 := Lib.hid (show (if cmpI x y = 0 then cmpL (l.drop (k + 1)) (m.drop (k + 1)) else cmpI x y) = R by rw [← HO.out, HD.out, HD2.out]; rfl)
        generalize cmpI x y = z at *
        by_cases h0 : z = 0
        · have HO2 := Lib.hid (show cmpL (l.drop (k + 1)) (m.drop (k + 1)) = R by rw [← HO3.out, if_pos h0])
          subst h0
          go_wp2_with (go_at_call 56; with_reducible refine Calls.mono (CC2.out _) ?_; rintro e w' ⟨rfl, rfl⟩)
          go_roundw
          case rel => exact ⟨k + 1, by go_num, by omega, by omega, HO2.out, by trivial⟩
          case measure => first | (simp [intOf]; done) | (simp [intOf]; omega)
        · have HE := Lib.hid (show R = z by rw [← HO3.out, if_neg h0])
          go_wp2_with (go_at_call 56; with_reducible refine Calls.mono (CC2.out _) ?_; rintro e w' ⟨rfl, rfl⟩)
          go_ret
          exact ⟨by rw [HE.out]; rfl, rfl⟩
      · have HE := Lib.hid (show R = 1 by rw [← HO.out, HD.out, show m.drop k = [] from List.drop_of_length_le (by rw [SW.out.len]; omega)]; rfl)
        go_wp2_with fail
        go_ret
        exact ⟨by rw [HE.out]; rfl, rfl⟩
    · obtain rfl : k = n := by omega
      have e1 : l.drop k = [] := List.drop_of_length_le (by rw [SV.out.len]; exact Nat.le_refl _)
      by_cases hl2 : k < n2
      · obtain ⟨y, hy⟩ := get_some SW.out.len hl2
        have HE := Lib.hid (show R = -1 by rw [← HO.out, e1, drop_at hy]; rfl)
        clear hy e1
        go_wp2_with fail
        go_ret
        exact ⟨by rw [HE.out]; rfl, rfl⟩
      · have HE := Lib.hid (show R = 0 by rw [← HO.out, e1, show m.drop k = [] from List.drop_of_length_le (by rw [SW.out.len]; omega)]; rfl)
        clear e1
        go_wp2_with fail
        go_ret
        exact ⟨by rw [HE.out]; rfl, rfl⟩
end Lb
end Go.Proofs.YthjolojpjajppaaGreat
set_option linter.unusedVariables false
set_option linter.unusedSimpArgs false
set_option linter.unnecessarySimpa false
namespace Go.Proofs.YthjolojpjajppaaGreat
open Go.RowKit
namespace Lb
open Sq
theorem has_no {l : List Int} {x : Int} (h : ∀ (k : Nat) y, l[k]? = some y → ¬ x = y) : x ∉ l := fun hm => by
  obtain ⟨k, hk⟩ := List.mem_iff_getElem?.1 hm
  exact h k x hk rfl
def IxP (l : List Int) (x i : Int) : Prop := if x ∈ l then 0 ≤ i else i = -1
set_option maxRecDepth 100000 in
theorem Index_any (o : Option Addr) (n c : Nat) (l : List Int) (x : Int) (w : World) (h : Sv intE w o n c l) :
    Calls Tryz.prog 105 #[.slice o n c, .int .i64 x] w fun e w' => (∃ i : Int, e = .returned (.int .i64 i) ∧ IxP l x i) ∧ w' = w := by
  have SV := Lib.hid h
  have hn : n ≤ 9223372036854775807 := by have := h.2.1; have := h.2.2.1; omega
  clear h
  go_enter Tryz.func105, Tryz.ntmps105
  go_wp2_with fail
  go_loopw [8] (fun jv wr => ∃ k : Nat, jv = .int .i64 k ∧ k ≤ n ∧ (∀ (i : Nat) y, i < k → l[i]? = some y → ¬ x = y) ∧ wr = w) (fun jv _ => n - (intOf jv).toNat)
  case atStart => exact ⟨0, rfl, Nat.zero_le _, fun i y h => absurd h (Nat.not_lt_zero _), rfl⟩
  case round =>
    obtain ⟨k, rfl, hk, hor, rfl⟩ := hrel
    have HO := Lib.hid hor
    clear hor
    by_cases hlt : k < n
    · obtain ⟨y, hy⟩ := get_some SV.out.len hlt
      obtain ⟨b, off, rfl, lb, cx⟩ := int_at SV.out hy
      by_cases h0 : x = y
      · have HE := Lib.hid (show x ∈ l from by rw [h0]; exact List.mem_of_getElem? hy)
        clear hy
        subst h0
        go_wp2_with fail
        go_ret
        exact ⟨⟨k, rfl, by unfold IxP; rw [if_pos HE.out]; omega⟩, rfl⟩
      · have HO2 := Lib.hid (show ∀ (i : Nat) z, i < k + 1 → l[i]? = some z → ¬ x = z from fun i z hi hz => by
          rcases Nat.lt_succ_iff_lt_or_eq.1 hi with h1 | rfl
          · exact HO.out i z h1 hz
          · rw [hy] at hz; cases hz; exact h0)
        clear hy
        go_wp2_with fail
        go_roundw
        case rel => exact ⟨k + 1, by go_num, by omega, HO2.out, by trivial⟩
        case measure => first | (simp [intOf]; done) | (simp [intOf]; omega)
    · obtain rfl : k = n := by omega
      have HE := Lib.hid (show x ∉ l from has_no fun i y hi => HO.out i y (by have := (List.getElem?_eq_some_iff.1 hi).1; rw [SV.out.len] at this; exact this) hi)
      go_wp2_with fail
      go_ret
      exact ⟨⟨-1, rfl, by unfold IxP; rw [if_neg HE.out]⟩, rfl⟩
set_option maxRecDepth 100000 in
theorem Contains_any (o : Option Addr) (n c : Nat) (l : List Int) (x : Int) (w : World) (h : Sv intE w o n c l) :
    Calls Tryz.prog 69 #[.slice o n c, .int .i64 x] w fun e w' => e = .returned (.bool (decide (x ∈ l))) ∧ w' = w := by
  have CI := Lib.hid (Index_any o n c l x w h)
  clear h
  by_cases hm : x ∈ l
  · rw [decide_eq_true hm]
    have HM := Lib.hid hm
    clear hm
    go_enter Tryz.func69, Tryz.ntmps69
    go_wp2_with (go_at_call 105; with_reducible refine Calls.mono CI.out ?_; rintro e w' ⟨⟨i, rfl, hi⟩, rfl⟩; unfold IxP at hi; rw [if_pos HM.out] at hi)
    go_ret
    exact ⟨by simp [*], rfl⟩
  · rw [decide_eq_false hm]
    have HM := Lib.hid hm
    clear hm
    go_enter Tryz.func69, Tryz.ntmps69
    go_wp2_with (go_at_call 105; with_reducible refine Calls.mono CI.out ?_; rintro e w' ⟨⟨i, rfl, hi⟩, rfl⟩; unfold IxP at hi; rw [if_neg HM.out] at hi; subst hi)
    go_ret
    exact ⟨by simp, rfl⟩
theorem same_of {α : Type} {l m : List α} {n : Nat} (hl : l.length = n) (hm : m.length = n) (h : ∀ k : Nat, k < n → l[k]? = m[k]?) : l = m := by
  apply List.ext_getElem?
  intro k
  by_cases hk : k < n
  · exact h k hk
  · rw [List.getElem?_eq_none (by omega), List.getElem?_eq_none (by omega)]
end Lb
end Go.Proofs.YthjolojpjajppaaGreat
