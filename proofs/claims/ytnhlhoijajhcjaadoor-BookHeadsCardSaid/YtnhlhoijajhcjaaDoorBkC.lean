/- All over the postings; are the days in order? -/
import Derived.Test.YtnhlhoijajhcjaaDoorBkB
set_option linter.unusedVariables false
set_option linter.unusedSimpArgs false
set_option linter.unnecessarySimpa false
namespace Go.Proofs.YtnhlhoijajhcjaaDoor
open Go.RowKit
namespace Bk
open Sq
/-- the seven cells of a posting -/
def At7 (w : World) (b off : Nat) (p : Po) : Prop := w.cell? ⟨b, off, none⟩ = some (.int .i64 p.kind) ∧ w.cell? ⟨b, off + 1, none⟩ = some (.int .i64 p.day) ∧ w.cell? ⟨b, off + 2, none⟩ = some (.int .i64 p.deb) ∧ w.cell? ⟨b, off + 3, none⟩ = some (.int .i64 p.cre) ∧
  w.cell? ⟨b, off + 4, none⟩ = some (.int .i64 p.amt) ∧ w.cell? ⟨b, off + 5, none⟩ = some (.int .i64 p.sub) ∧ w.cell? ⟨b, off + 6, none⟩ = some (.int .i64 p.of)
theorem sl_at {w : World} {b off : Nat} {l : List Po} (h : Sl poE w (some ⟨b, off, none⟩) l) {k : Nat} (hk : k < l.length) : b < w.heap.size ∧ At7 w b (off + k * 7) (at' l k) := by
  rcases h with rfl | ⟨b', off', e, hl, hc⟩
  · exact absurd hk (Nat.not_lt_zero _)
  · cases e
    have q := hc k _ (at_get hk)
    exact ⟨hl, q 0 _ rfl, q 1 _ rfl, q 2 _ rfl, q 3 _ rfl, q 4 _ rfl, q 5 _ rfl, q 6 _ rfl⟩
theorem At7.next {w w' : World} {b off : Nat} {p : Po} (h : At7 w b off p) (hl : b < w.heap.size) (hb : Below w.heap.size w w') : At7 w' b off p := by
  obtain ⟨h0, h1, h2, h3, h4, h5, h6⟩ := h
  have c : ∀ {o v}, w.cell? ⟨b, o, none⟩ = some v → w'.cell? ⟨b, o, none⟩ = some v := fun {o v} e => (hb.cell (p := ⟨b, o, none⟩) hl).trans e
  exact ⟨c h0, c h1, c h2, c h3, c h4, c h5, c h6⟩
abbrev ptV (b : Nat) : Value := .pointer (some ⟨b, 0, none⟩)
theorem all_false {acc : Int} {l : List Po} {k : Nat} (hk : k < l.length) (h : fm acc (at' l k) = false) : l.all (fm acc) = false := by
  cases e : l.all (fm acc) with
  | false => rfl
  | true => rw [List.all_eq_true.1 e _ (at_mem hk)] at h; cases h
theorem all_true {acc : Int} {l : List Po} (h : ∀ i, i < l.length → fm acc (at' l i) = true) : l.all (fm acc) = true := by
  rw [List.all_eq_true]
  intro p hp
  obtain ⟨k, hk, rfl⟩ := List.getElem_of_mem hp
  rw [← at_of (List.getElem?_eq_getElem hk)]
  exact h k hk
set_option maxRecDepth 100000 in
set_option maxHeartbeats 2000000 in
theorem all_any (b : Nat) (acc : Int) (o : Option Addr) (n c : Nat) (l : List Po) (w : World) (hb : Has1 w b (.int .i64 acc)) (hl : l.length = n) (hn : n ≤ maxLen) (hS : Sl poE w o l) :
    Calls Tryd.prog 51 #[.slice o n c, .func (.func 52) #[] #[ptV b]] w fun e w' => e = .returned (.bool (l.all (fm acc))) ∧ Below w.heap.size w w' := by
  have CF := Lib.hid (fun p W h => allFormed_any b p acc W h)
  have HF := Lib.hid (fun k hk h => all_false (acc := acc) (l := l) (k := k) hk h)
  have HTr := Lib.hid (fun h => all_true (acc := acc) (l := l) h)
  have HB := Lib.hid hb
  have SL := Lib.hid hS
  have HL := Lib.hid hl
  obtain ⟨F, hF⟩ : ∃ F, l.all (fm acc) = F := ⟨_, rfl⟩
  rw [hF] at HF HTr ⊢
  unfold maxLen at hn
  clear hb hS hl hF
  go_enter Tryd.func51, Tryd.ntmps51
  go_wp2_with fail
  go_loopw [9] (fun jv wr => ∃ k : Nat, jv = .int .i64 k ∧ k ≤ n ∧ (∀ i, i < k → fm acc (at' l i) = true) ∧ Below w.heap.size w wr) (fun jv _ => n - (intOf jv).toNat)
  case atStart => exact ⟨0, rfl, Nat.zero_le _, fun i h => absurd h (Nat.not_lt_zero _), Below.refl _ _⟩
  case round =>
    obtain ⟨k, rfl, hk, hall, hB⟩ := hrel
    rename World => wr
    have BB := Lib.hid hB
    have HA := Lib.hid hall
    replace HB := Lib.hid (has1 HB.out hB)
    replace SL := Lib.hid (SL.out.next hB)
    clear hB hall
    by_cases hlt : k < n
    · obtain ⟨bl, off, rfl, -, -⟩ := SL.out.cells (fun e => by have := HL.out; rw [e] at this; simp at this; omega)
      obtain ⟨lb, c0, c1, c2, c3, c4, c5, c6⟩ := sl_at SL.out (k := k) (by rw [HL.out]; exact hlt)
      have HF2 := Lib.hid (fun h => HF.out k (by rw [HL.out]; exact hlt) h)
      obtain ⟨x, hx⟩ : ∃ x, fm acc (at' l k) = x := ⟨_, rfl⟩
      have CF2 := Lib.hid (fun W h => CF.out (at' l k) W h)
      rw [hx] at CF2 HF2
      have HX := Lib.hid hx
      clear hx
      have HA2 := Lib.hid (show x = true → ∀ i, i < k + 1 → fm acc (at' l i) = true from fun h i hi => by
        rcases Nat.lt_succ_iff_lt_or_eq.1 hi with h1 | rfl
        · exact HA.out i h1
        · rw [HX.out, h])
      generalize at' l k = p at *
      unfold Po.v at CF2
      obtain ⟨kind, day, deb, cre, amt, sub, of⟩ := p
      dsimp only at *
      cases x with
      | true =>
        go_wp2_with fail
        with_reducible refine Calls.mono (CF2.out _ ?_) ?_
        · obtain ⟨q1, q2⟩ := HB.out
          exact has1 ⟨q1, q2⟩ ((Below.refl _ _).alloc (Nat.le_refl _) _)
        rintro e w' ⟨rfl, hb⟩
        have HB3 := Lib.hid (Below.andThen ((Below.refl wr.heap.size wr).alloc (Nat.le_refl _) _) hb)
        clear hb
        go_wp2_with fail
        go_roundw
        case rel => exact ⟨k + 1, by go_num, by omega, HA2.out (by trivial), Below.andThen BB.out HB3.out⟩
        case measure => simp [intOf]; omega
      | false =>
        have HE := Lib.hid (HF2.out (by trivial))
        go_wp2_with fail
        with_reducible refine Calls.mono (CF2.out _ ?_) ?_
        · obtain ⟨q1, q2⟩ := HB.out
          exact has1 ⟨q1, q2⟩ ((Below.refl _ _).alloc (Nat.le_refl _) _)
        rintro e w' ⟨rfl, hb⟩
        have HB3 := Lib.hid (Below.andThen ((Below.refl wr.heap.size wr).alloc (Nat.le_refl _) _) hb)
        clear hb
        go_wp2_with fail
        go_ret
        exact ⟨by rw [HE.out]; rfl, Below.andThen BB.out HB3.out⟩
    · obtain rfl : k = n := by omega
      have HE := Lib.hid (HTr.out (by rw [HL.out]; exact HA.out))
      go_wp2_with fail
      go_ret
      exact ⟨by rw [HE.out]; rfl, BB.out⟩
theorem dayDiff_any (p q : Po) (w : World) (hp : 0 ≤ p.day ∧ p.day < 1000000) (hq : 0 ≤ q.day ∧ q.day < 1000000) : Calls Tryd.prog 57 #[p.v, q.v] w fun e w' => e = .returned (.int .i64 (p.day - q.day)) ∧ Below w.heap.size w w' := by
  obtain ⟨kind, day, deb, cre, amt, sub, of⟩ := p
  obtain ⟨kind', day', deb', cre', amt', sub', of'⟩ := q
  dsimp only at hp hq
  unfold Po.v
  dsimp only
  go_enter Tryd.func57, Tryd.ntmps57
  go_wp2_with fail
  go_ret
  exact ⟨rfl, by (repeat' first | exact Below.refl _ _ | assumption | (refine below_drewN ?_ _) | (refine Below.drew ?_) | (refine Below.alloc ?_ ?_ _) | (refine Below.setCell ?_ ?_ _) | (simp; done) | (simp; omega) | omega)⟩
def Srt (l : List Po) : Prop := ∀ i, i < l.length → 0 < i → (at' l (i - 1)).day ≤ (at' l i).day
instance (l : List Po) : Decidable (Srt l) := by unfold Srt; infer_instance
set_option maxRecDepth 100000 in
set_option maxHeartbeats 2000000 in
theorem sorted_any (o : Option Addr) (n c : Nat) (l : List Po) (w : World) (hl : l.length = n) (hn : n ≤ 1000000) (hd : ∀ p ∈ l, 0 ≤ p.day ∧ p.day < 1000000) (hS : Sl poE w o l) :
    Calls Tryd.prog 56 #[.slice o n c, .func (.func 57) #[] #[]] w fun e w' => e = .returned (.bool (decide (Srt l))) ∧ Below w.heap.size w w' := by
  have CF := Lib.hid dayDiff_any
  have HD := Lib.hid hd
  have SL := Lib.hid hS
  have HL := Lib.hid hl
  have BB := Lib.hid (Below.refl w.heap.size w)
  obtain ⟨F, hF⟩ : ∃ F, decide (Srt l) = F := ⟨_, rfl⟩
  have HN := Lib.hid (show ∀ k, k < n → 0 < k → ¬ (at' l (k - 1)).day ≤ (at' l k).day → F = false from fun k h0 h1 h2 => by rw [← hF]; exact decide_eq_false (fun h => h2 (h k (by omega) h1)))
  have HY := Lib.hid (show (∀ k, k < n → 0 < k → (at' l (k - 1)).day ≤ (at' l k).day) → F = true from fun h => by rw [← hF]; exact decide_eq_true (fun k h0 h1 => h k (by omega) h1))
  rw [hF]
  clear hS hl hF hd
  go_enter Tryd.func56, Tryd.ntmps56
  go_wp2_with fail
  go_loopw [5] (fun jv wr => ∃ k : Int, jv = .int .i64 k ∧ -1 ≤ k ∧ k < n ∧ (∀ j : Nat, k < j → j < n → 0 < j → (at' l (j - 1)).day ≤ (at' l j).day) ∧ Below w.heap.size w wr) (fun jv _ => (intOf jv).toNat)
  case atStart => exact ⟨_, rfl, by omega, by omega, fun j h1 h2 => by omega, Below.refl _ _⟩
  case round =>
    obtain ⟨k, rfl, hk0, hk, hall, hB⟩ := hrel
    rename World => wr
    replace BB := Lib.hid hB
    have HA := Lib.hid hall
    replace SL := Lib.hid (SL.out.next hB)
    clear hB hall
    by_cases hlt : 0 < k
    · obtain ⟨m, rfl⟩ : ∃ m : Nat, k = (m + 1 : Nat) := ⟨k.toNat - 1, by omega⟩
      have hm : m + 1 < n := by omega
      obtain ⟨bl, off, rfl, -, -⟩ := SL.out.cells (fun e => by have := HL.out; rw [e] at this; simp at this; omega)
      obtain ⟨lb, c0, c1, c2, c3, c4, c5, c6⟩ := sl_at SL.out (k := m + 1) (by rw [HL.out]; exact hm)
      obtain ⟨-, d0, d1, d2, d3, d4, d5, d6⟩ := sl_at SL.out (k := m) (by rw [HL.out]; omega)
      have q1 := HD.out _ (at_mem (l := l) (i := m + 1) (by rw [HL.out]; exact hm))
      have q2 := HD.out _ (at_mem (l := l) (i := m) (by rw [HL.out]; omega))
      have CF2 := Lib.hid (fun W => CF.out (at' l (m + 1)) (at' l m) W q1 q2)
      have HN2 := Lib.hid (HN.out (m + 1) hm (Nat.succ_pos _))
      have HA2 := Lib.hid (show (at' l m).day ≤ (at' l (m + 1)).day → ∀ j : Nat, (m : Int) < j → j < n → 0 < j → (at' l (j - 1)).day ≤ (at' l j).day from fun h j h1 h2 h3 => by
        by_cases e : j = m + 1
        · subst e; exact h
        · exact HA.out j (by omega) h2 h3)
      rw [Nat.add_sub_cancel] at HN2
      generalize at' l (m + 1) = p at *
      generalize at' l m = q at *
      unfold Po.v at CF2
      obtain ⟨kind, day, deb, cre, amt, sub, of⟩ := p
      obtain ⟨kind', day', deb', cre', amt', sub', of'⟩ := q
      dsimp only at *
      by_cases hday : day' ≤ day
      · have HA3 := Lib.hid (HA2.out hday)
        have hneg : ¬ day - day' < 0 := by omega
        have e1 : ((m + 1 : Nat) : Int) - 1 = m := by omega
        clear HA2 HN2 HN HY
        go_upto_region 4 with (fail)
        refine wp_region_kin (by kernel_rfl) (by kernel_rfl) wr.heap.size 0 (by simp) (fun hk => ?_)
        repeat (go_big_quiet_step ((go_at_call 57; with_reducible exact Calls.kin (CF2.out _))))
        refine wpQuiet_nil ?_
        clear hk
        intro W2 hb
        replace SL := Lib.hid (SL.out.next hb)
        replace BB := Lib.hid (Below.andThen BB.out hb)
        clear hb
        go_wp2_with fail
        go_roundw
        case rel => exact ⟨m, by go_num, by omega, by omega, HA3.out, BB.out⟩
        case measure => first | (simp [intOf]; done) | (simp [intOf]; omega)
      · have HE := Lib.hid (HN2.out (by omega))
        have hneg : day - day' < 0 := by omega
        have e1 : ((m + 1 : Nat) : Int) - 1 = m := by omega
        clear HA2 HN2 HN HY
        go_upto_region 4 with (fail)
        refine wp_region_kin (by kernel_rfl) (by kernel_rfl) wr.heap.size 0 (by simp) (fun hk => ?_)
        repeat (go_big_quiet_step ((go_at_call 57; with_reducible exact Calls.kin (CF2.out _))))
        refine wpQuiet_nil ?_
        clear hk
        intro W2 hb
        replace SL := Lib.hid (SL.out.next hb)
        replace BB := Lib.hid (Below.andThen BB.out hb)
        clear hb
        go_wp2_with fail
        go_ret
        exact ⟨by rw [HE.out]; rfl, BB.out⟩
    · have HE := Lib.hid (HY.out (fun j h1 h2 => HA.out j (by omega) h1 h2))
      go_wp2_with fail
      go_ret
      exact ⟨by rw [HE.out]; rfl, BB.out⟩
end Bk
end Go.Proofs.YtnhlhoijajhcjaaDoor
