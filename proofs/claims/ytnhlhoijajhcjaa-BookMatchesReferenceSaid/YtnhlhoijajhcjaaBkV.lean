/- What posts do to statements and to what is owed: mathematics. -/
import Derived.Test.YtnhlhoijajhcjaaBkRL
import Derived.Test.YtnhlhoijajhcjaaBkRK
set_option linter.unusedVariables false
set_option linter.unusedSimpArgs false
namespace Go.Proofs.Ytnhlhoijajhcjaa
open Go.RowKit
namespace Bk
def sumK (f : Nat → Int) : Nat → Int
  | 0 => 0
  | n + 1 => sumK f n + f n
theorem sumK_congr {f g : Nat → Int} {n : Nat} (h : ∀ k, k < n → f k = g k) : sumK f n = sumK g n := by
  induction n with
  | zero => rfl
  | succ n ih => rw [sumK, sumK, ih (fun k hk => h k (by omega)), h n (by omega)]
theorem sumK_zero {f : Nat → Int} {n : Nat} (h : ∀ k, k < n → f k = 0) : sumK f n = 0 := by
  induction n with
  | zero => rfl
  | succ n ih => rw [sumK, ih (fun k hk => h k (by omega)), h n (by omega)]; rfl
theorem sumK_add (f g : Nat → Int) (n : Nat) : sumK (fun k => f k + g k) n = sumK f n + sumK g n := by
  induction n with
  | zero => rfl
  | succ n ih => rw [sumK, sumK, sumK, ih]; omega
/-- one term alone differs -/
theorem sumK_one {f g : Nat → Int} {n i : Nat} {d : Int} (hi : i < n) (h : ∀ k, k < n → k ≠ i → g k = f k) (hd : g i = f i + d) : sumK g n = sumK f n + d := by
  induction n with
  | zero => omega
  | succ n ih =>
    rw [sumK, sumK]
    by_cases e : i = n
    · subst e
      rw [hd, sumK_congr (fun k hk => h k (by omega) (by omega))]
      omega
    · rw [ih (by omega) (fun k hk => h k (by omega)), h n (by omega) (fun e2 => e e2.symm)]
      omega
theorem sumK_comm (f : Nat → Nat → Int) (n m : Nat) : sumK (fun k => sumK (f k) m) n = sumK (fun j => sumK (fun k => f k j) n) m := by
  induction n with
  | zero =>
    rw [sumK]
    exact (sumK_zero fun k _ => rfl).symm
  | succ n ih =>
    rw [sumK, ih, ← sumK_add]
    rfl
/-- a single term -/
theorem sumK_pick {n i : Nat} {x : Int} (hi : i < n) : sumK (fun k => if k = i then x else 0) n = x := by
  rw [sumK_one (f := fun _ => 0) (i := i) (d := x) hi (fun k _ hk => if_neg hk) (by rw [if_pos rfl]; omega), sumK_zero (fun _ _ => rfl)]
  omega
theorem sumP_idx (c : Nat × Po → Bool) (l : List Po) (t : Nat) : ∀ n, sumP ((idx l n).filter c) t = sumK (fun k => if c (k, at' l k) = true then eff (at' l k) t else 0) n
  | 0 => rfl
  | n + 1 => by
    rw [show idx l (n + 1) = idx l n ++ [(n, at' l n)] from rfl, List.filter_append, sumK, ← sumP_idx c l t n]
    by_cases h : c (n, at' l n) = true
    · rw [List.filter_cons_of_pos h, List.filter_nil, sumP_snoc, if_pos h]
    · rw [List.filter_cons_of_neg h, List.filter_nil, List.append_nil, if_neg h]
      omega
theorem sT_sum (l : List Po) (m : Int) (t : Nat) : sT l m t = sumK (fun k => if (at' l k).day.tdiv 30 = m then eff (at' l k) t else 0) l.length := by
  unfold sT flt
  rw [sumP_idx]
  exact sumK_congr fun k _ => by simp [toN]
theorem oT_sum (l : List Po) (s : Int) (t : Nat) : oT l s t = sumK (fun k => if rev l k = false ∧ (at' l k).kind = 1 ∧ (at' l k).sub = s then eff (at' l k) t else 0) l.length := by
  unfold oT alive flt
  rw [List.filter_filter, sumP_idx]
  exact sumK_congr fun k _ => by simp [feeT]
/-- what all postings do -/
def allT (l : List Po) (t : Nat) : Int := sumK (fun k => eff (at' l k) t) l.length
theorem len_snoc (l : List Po) (p : Po) : (l ++ [p]).length = l.length + 1 := by rw [List.length_append]; rfl
theorem allT_snoc (l : List Po) (p : Po) (t : Nat) : allT (l ++ [p]) t = allT l t + eff p t := by
  unfold allT
  rw [len_snoc, sumK, at_last, sumK_congr (fun k hk => by rw [at_left hk])]
theorem sT_snoc (l : List Po) (p : Po) (m : Int) (t : Nat) : sT (l ++ [p]) m t = sT l m t + if p.day.tdiv 30 = m then eff p t else 0 := by
  rw [sT_sum, sT_sum, len_snoc, sumK, at_last, sumK_congr (fun k hk => by rw [at_left hk])]
theorem vd_init {acc cl : Int} {l : List Po} {p : Po} (h : Vd acc (l ++ [p]) cl) : Vd acc l cl := by
  obtain ⟨⟨h1, h2, h3, h4, h5⟩, h6⟩ := h
  rw [len_snoc] at h5 h6
  refine ⟨⟨h1, h2, h3, h4, by omega⟩, fun i hi => ?_⟩
  obtain ⟨g1, g2, g3⟩ := h6 i (by omega)
  rw [at_left hi] at g1 g2 g3
  refine ⟨g1, fun h0 => by have := g2 h0; rwa [at_left (by omega)] at this, fun hk => ?_⟩
  have g4 := g3 hk
  unfold TbP at g4 ⊢
  rw [at_left hi, List.take_append_of_le_length (by omega)] at g4
  have hof : (at' l i).of.toNat < l.length := by
    have := g4.1
    omega
  rw [at_left hof] at g4
  exact g4
theorem last_ok {acc cl : Int} {l : List Po} {p : Po} (h : Vd acc (l ++ [p]) cl) : FmP acc p ∧ (p.kind = 2 → ∃ i : Nat, p.of = i ∧ i < l.length ∧ (at' l i).kind = 1 ∧ rev l i = false ∧ (at' l i).sub = p.sub ∧ p.deb = (at' l i).cre ∧ p.cre = (at' l i).deb ∧ p.amt = (at' l i).amt) := by
  obtain ⟨g1, g2, g3⟩ := h.2 l.length (by rw [len_snoc]; exact Nat.lt_succ_self _)
  rw [at_last] at g1 g2 g3
  refine ⟨g1, fun hk => ?_⟩
  have g4 := g3 hk
  unfold TbP at g4
  rw [at_last, List.take_append_of_le_length (Nat.le_refl _), List.take_length] at g4
  have hof : 0 ≤ p.of := by rcases g1.1 with ⟨e, _⟩ | ⟨_, e, _⟩ <;> omega
  obtain ⟨i, hi⟩ : ∃ i : Nat, p.of = i := ⟨p.of.toNat, by omega⟩
  rw [hi, Int.toNat_natCast] at g4
  have hil : i < l.length := by have := g4.1; omega
  rw [at_left hil] at g4
  exact ⟨i, hi, hil, g4.2.1, g4.2.2.1, g4.2.2.2.1, g4.2.2.2.2⟩
theorem rev_snoc (l : List Po) (p : Po) (i : Int) : rev (l ++ [p]) i = (rev l i || decide (p.kind = 2 ∧ p.of = i)) := by
  rw [rev_append]
  unfold rev
  simp
theorem rev_none' {acc cl : Int} {l : List Po} (h : Vd acc l cl) : rev l l.length = false := by
  cases hr : rev l l.length with
  | false => rfl
  | true =>
    obtain ⟨j, h1, h2, h3⟩ := rev_iff.1 hr
    have := ((h.2 j h1).2.2 h2).1
    omega
theorem oT_fee {acc cl : Int} {l : List Po} {p : Po} (h : Vd acc (l ++ [p]) cl) (hk : p.kind = 1) (s : Int) (t : Nat) : oT (l ++ [p]) s t = oT l s t + if p.sub = s then eff p t else 0 := by
  have hr : ∀ i : Int, rev (l ++ [p]) i = rev l i := fun i => by rw [rev_snoc]; simp [hk]
  rw [oT_sum, oT_sum, len_snoc, sumK, at_last]
  rw [sumK_congr (g := fun k => if rev l k = false ∧ (at' l k).kind = 1 ∧ (at' l k).sub = s then eff (at' l k) t else 0) (fun k hk => by rw [at_left hk, hr])]
  rw [hr, rev_none' (vd_init h)]
  simp [hk]
theorem oT_back {acc cl : Int} {l : List Po} {p : Po} (h : Vd acc (l ++ [p]) cl) (hk : p.kind = 2) {i : Nat} (hi : p.of = i) (s : Int) (t : Nat) : oT (l ++ [p]) s t = oT l s t - if (at' l i).sub = s then eff (at' l i) t else 0 := by
  obtain ⟨i', e, hil, k1, hrv, -⟩ := (last_ok h).2 hk
  obtain rfl : i' = i := by omega
  have hr : ∀ j : Int, rev (l ++ [p]) j = (rev l j || decide ((i' : Int) = j)) := fun j => by rw [rev_snoc]; simp [hk, e]
  rw [oT_sum, oT_sum, len_snoc, sumK, at_last]
  rw [if_neg (show ¬ (rev (l ++ [p]) l.length = false ∧ p.kind = 1 ∧ p.sub = s) from fun g => by omega)]
  rw [sumK_one (f := fun k => if rev l k = false ∧ (at' l k).kind = 1 ∧ (at' l k).sub = s then eff (at' l k) t else 0) (i := i') (d := - if (at' l i').sub = s then eff (at' l i') t else 0) hil ?_ ?_]
  · omega
  · intro k hk2 hne
    rw [at_left hk2, hr, decide_eq_false (by omega), Bool.or_false]
  · rw [at_left hil, hr, decide_eq_true rfl, Bool.or_true, if_neg (fun g => by cases g.1)]
    by_cases hs : (at' l i').sub = s
    · rw [if_pos hs, if_pos ⟨hrv, k1, hs⟩]
      omega
    · rw [if_neg hs, if_neg (fun g => hs g.2.2)]
      rfl
/-- the two sides of a posting -/
theorem eff_swap {p q : Po} (h1 : p.deb = q.cre) (h2 : p.cre = q.deb) (h3 : p.amt = q.amt) (t : Nat) : eff p t = - eff q t := by
  unfold eff
  rw [h1, h2, h3]
  omega
theorem eff_sum {acc : Int} {A : Nat} (hA : acc = A) {p : Po} (h : FmP acc p) : sumK (eff p) A = 0 := by
  obtain ⟨_, _, ⟨d1, d2⟩, ⟨c1, c2⟩, hne, _⟩ := h
  obtain ⟨c, hc⟩ : ∃ c : Nat, p.cre = c := ⟨p.cre.toNat, by omega⟩
  obtain ⟨d, hd⟩ : ∃ d : Nat, p.deb = d := ⟨p.deb.toNat, by omega⟩
  have e : sumK (eff p) A = sumK (fun t => (if t = c then p.amt else 0) + (if t = d then - p.amt else 0)) A := sumK_congr fun t _ => by
    unfold eff
    rw [hc, hd]
    by_cases e1 : t = c <;> by_cases e2 : t = d <;> simp [e1, e2] <;> omega
  rw [e, sumK_add, sumK_pick (by omega), sumK_pick (by omega)]
  omega
theorem stmt_zero {acc : Int} {A : Nat} (hA : acc = A) {l : List Po} (hf : ∀ k, k < l.length → FmP acc (at' l k)) (m : Int) : sumK (sT l m) A = 0 := by
  rw [sumK_congr (fun t _ => sT_sum l m t)]
  rw [sumK_comm]
  refine sumK_zero fun k hk => ?_
  by_cases h : (at' l k).day.tdiv 30 = m
  · rw [sumK_congr (g := eff (at' l k)) (fun t _ => if_pos h)]
    exact eff_sum hA (hf k hk)
  · exact sumK_zero fun t _ => if_neg h
theorem owed_zero {acc : Int} {A : Nat} (hA : acc = A) {l : List Po} (hf : ∀ k, k < l.length → FmP acc (at' l k)) (s : Int) : sumK (oT l s) A = 0 := by
  rw [sumK_congr (fun t _ => oT_sum l s t)]
  rw [sumK_comm]
  refine sumK_zero fun k hk => ?_
  by_cases h : rev l k = false ∧ (at' l k).kind = 1 ∧ (at' l k).sub = s
  · rw [sumK_congr (g := eff (at' l k)) (fun t _ => if_pos h)]
    exact eff_sum hA (hf k hk)
  · exact sumK_zero fun t _ => if_neg h
theorem stmt_all {acc : Int} {l : List Po} (hf : ∀ k, k < l.length → FmP acc (at' l k)) (t : Nat) : sumK (fun m => sT l m t) 12 = allT l t := by
  rw [sumK_congr (fun m _ => sT_sum l m t), sumK_comm]
  unfold allT
  refine sumK_congr fun k hk => ?_
  obtain ⟨h1, h2⟩ := (hf k hk).2.1
  obtain ⟨d, hd⟩ : ∃ d : Nat, (at' l k).day = d := ⟨(at' l k).day.toNat, by omega⟩
  have e : (at' l k).day.tdiv 30 = ((d / 30 : Nat) : Int) := by rw [hd]; rfl
  rw [e, sumK_congr (g := fun m => if m = d / 30 then eff (at' l k) t else 0) (fun m _ => by
    by_cases h : m = d / 30
    · rw [if_pos h, if_pos (by rw [h])]
    · rw [if_neg h, if_neg (by omega)])]
  exact sumK_pick (by omega)
theorem owed_all {acc cl : Int} (l : List Po) (h : Vd acc l cl) (hs : ∀ p ∈ l, 0 ≤ p.sub ∧ p.sub < 6) (t : Nat) : sumK (fun s => oT l s t) 6 = allT l t := by
  have pk : ∀ (x : Int) (u : Int), 0 ≤ u → u < 6 → sumK (fun s => if u = (s : Int) then x else 0) 6 = x := fun x u h1 h2 => by
    rw [sumK_congr (g := fun s => if s = u.toNat then x else 0) (fun s _ => by
      by_cases e : s = u.toNat
      · rw [if_pos e, if_pos (by omega)]
      · rw [if_neg e, if_neg (by omega)])]
    exact sumK_pick (by omega)
  have key : ∀ (n : Nat) (l : List Po), l.length = n → Vd acc l cl → (∀ p ∈ l, 0 ≤ p.sub ∧ p.sub < 6) → sumK (fun s => oT l s t) 6 = allT l t := by
    intro n
    induction n with
    | zero =>
      intro l hl _ _
      have : l = [] := List.eq_nil_of_length_eq_zero hl
      subst this
      rfl
    | succ n ih =>
      intro l hl hv hs
      obtain ⟨l0, p, rfl⟩ : ∃ l0 p, l = l0 ++ [p] := ⟨l.dropLast, l.getLast (fun e => by rw [e] at hl; cases hl), (List.dropLast_concat_getLast _).symm⟩
      rw [len_snoc] at hl
      have h0 := ih l0 (by omega) (vd_init hv) (fun q hq => hs q (List.mem_append.2 (.inl hq)))
      obtain ⟨hf, hb⟩ := last_ok hv
      have hsp := hs p (List.mem_append.2 (.inr (List.mem_singleton.2 rfl)))
      rw [allT_snoc, ← h0]
      by_cases hk : p.kind = 1
      · rw [sumK_congr (fun s _ => oT_fee hv hk s t), sumK_add, pk _ _ hsp.1 hsp.2]
      · have hk2 : p.kind = 2 := by rcases hf.1 with ⟨e, _⟩ | ⟨e, _⟩ <;> omega
        obtain ⟨i, e, hil, k1, hrv, hsub, q1, q2, q3⟩ := hb hk2
        rw [sumK_congr (g := fun s => oT l0 s t + if (at' l0 i).sub = (s : Int) then - eff (at' l0 i) t else 0) (fun s _ => by
          rw [oT_back hv hk2 e]
          by_cases h : (at' l0 i).sub = (s : Int)
          · rw [if_pos h, if_pos h]; omega
          · rw [if_neg h, if_neg h]; omega), sumK_add, pk _ _ (by rw [hsub]; exact hsp.1) (by rw [hsub]; exact hsp.2), eff_swap q1 q2 q3]
  exact key l.length l rfl h hs
end Bk
end Go.Proofs.Ytnhlhoijajhcjaa
