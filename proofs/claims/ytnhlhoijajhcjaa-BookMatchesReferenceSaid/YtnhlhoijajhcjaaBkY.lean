/- Disputes and posts: mathematics of the laws BookDisputes and BookKeeps; stores into a slice of one's own. -/
import Derived.Test.YtnhlhoijajhcjaaBkX
set_option linter.unusedVariables false
set_option linter.unusedSimpArgs false
namespace Go.Proofs.Ytnhlhoijajhcjaa
open Go.RowKit
namespace Bk
open Sq
theorem vd_snoc {acc cl : Int} {l : List Po} {p : Po} (hv : Vd acc l cl) (hlen : l.length < 200) (hf : FmP acc p) (hs : ∀ k, k < l.length → (at' l k).day ≤ p.day)
    (hb : p.kind = 2 → ∃ i : Nat, p.of = i ∧ i < l.length ∧ (at' l i).kind = 1 ∧ rev l i = false ∧ (at' l i).sub = p.sub ∧ p.deb = (at' l i).cre ∧ p.cre = (at' l i).deb ∧ p.amt = (at' l i).amt) : Vd acc (l ++ [p]) cl := by
  obtain ⟨⟨h1, h2, h3, h4, h5⟩, h6⟩ := hv
  refine ⟨⟨h1, h2, h3, h4, by rw [len_snoc]; omega⟩, fun j hj => ?_⟩
  rw [len_snoc] at hj
  by_cases e : j = l.length
  · subst e
    refine ⟨by rw [at_last]; exact hf, fun h0 => ?_, fun hk => ?_⟩
    · rw [at_last, at_left (by omega)]
      exact hs _ (by omega)
    · rw [at_last] at hk
      obtain ⟨i, e, hi, k1, k2, k3, k4, k5, k6⟩ := hb hk
      unfold TbP
      rw [at_last, e, Int.toNat_natCast, at_left hi, List.take_append_of_le_length (Nat.le_refl _), List.take_length]
      exact ⟨by omega, k1, k2, k3, k4, k5, k6⟩
  · have hj2 : j < l.length := by omega
    obtain ⟨g1, g2, g3⟩ := h6 j hj2
    refine ⟨by rw [at_left hj2]; exact g1, fun h0 => ?_, fun hk => ?_⟩
    · rw [at_left hj2, at_left (by omega)]
      exact g2 h0
    · rw [at_left hj2] at hk
      have g4 := g3 hk
      unfold TbP at g4 ⊢
      have hof : (at' l j).of.toNat < l.length := by have := g4.1; omega
      rw [at_left hj2, at_left hof, List.take_append_of_le_length (by omega)]
      exact g4
theorem days_up {acc cl : Int} {l : List Po} (hv : Vd acc l cl) : ∀ (d j : Nat), j + d < l.length → (at' l j).day ≤ (at' l (j + d)).day
  | 0, j, _ => Int.le_refl _
  | d + 1, j, h => by
    have h1 := days_up hv d j (by omega)
    have h2 := (hv.2 (j + (d + 1)) h).2.1 (by omega)
    rw [show j + (d + 1) - 1 = j + d by omega] at h2
    omega
theorem days_last {acc cl : Int} {l : List Po} (hv : Vd acc l cl) {M : Nat} (hl : l.length = M + 1) {day : Int} (hd : (at' l M).day ≤ day) : ∀ k, k < l.length → (at' l k).day ≤ day := fun k hk => by
  have := days_up hv (M - k) k (by omega)
  rw [show k + (M - k) = M by omega] at this
  omega
def afterD (l : List Po) (i : Nat) (day n : Int) : List Po := if n = 0 then l ++ [back (at' l i) i day] else (l ++ [back (at' l i) i day]) ++ [again (at' l i) day n]
theorem disp_yes {acc cl : Int} {l : List Po} (hv : Vd acc l cl) (hlen : l.length ≤ 100) {i : Nat} (hi : i < l.length) {day n : Int} (hd1 : 30 * cl ≤ day) (hd2 : 0 ≤ day ∧ day < 360) (hs : ∀ k, k < l.length → (at' l k).day ≤ day) (hn : 0 ≤ n ∧ n ≤ 1000000000) (hk : (at' l i).kind = 1) (hr : rev l i = false) :
    dispB acc l cl i day n = some ⟨acc, afterD l i day n, cl⟩ ∧ Vd acc (l ++ [back (at' l i) i day]) cl ∧ Vd acc (afterD l i day n) cl := by
  have hq := (hv.2 i hi).1
  have hof : (at' l i).of = -1 := by rcases hq.1 with ⟨_, e⟩ | ⟨e, _⟩ <;> omega
  have v1 : Vd acc (l ++ [back (at' l i) i day]) cl := vd_snoc hv (by omega)
    ⟨.inr ⟨rfl, by show (0 : Int) ≤ i; omega, by show (i : Int) < 200; omega⟩, hd2, hq.2.2.2.1, hq.2.2.1, fun e => hq.2.2.2.2.1 e.symm, hq.2.2.2.2.2.1, hq.2.2.2.2.2.2⟩ hs (fun _ => ⟨i, rfl, hi, hk, hr, rfl, rfl, rfl, rfl⟩)
  have e1 : postB acc l cl (back (at' l i) i day) = some ⟨acc, l ++ [back (at' l i) i day], cl⟩ := by
    unfold postB post
    rw [if_pos ⟨hv, v1, hd1⟩]
    rfl
  have e := dispB_ok (acc := acc) (cl := cl) (l := l) (i := i) (day := day) (amt := n) ⟨by omega, by omega, hn.1, hn.2⟩
  rw [Int.toNat_natCast, e1] at e
  dsimp only at e
  unfold afterD
  by_cases h0 : n = 0
  · rw [if_pos h0] at e ⊢
    exact ⟨e, v1, v1⟩
  · rw [if_neg h0] at e ⊢
    have v2 : Vd acc ((l ++ [back (at' l i) i day]) ++ [again (at' l i) day n]) cl := vd_snoc v1 (by rw [len_snoc]; omega)
      ⟨.inl ⟨hk, hof⟩, hd2, hq.2.2.1, hq.2.2.2.1, hq.2.2.2.2.1, ⟨by show 1 ≤ n; omega, hn.2⟩, hq.2.2.2.2.2.2⟩ (fun k hk2 => by
        rw [len_snoc] at hk2
        by_cases e : k = l.length
        · subst e; rw [at_last]; exact Int.le_refl _
        · rw [at_left (by omega)]; exact hs k (by omega)) (fun e => by
        have : (at' l i).kind = 2 := e
        omega)
    refine ⟨?_, v1, v2⟩
    rw [e]
    unfold postB post
    rw [if_pos ⟨v1, v2, hd1⟩]
    rfl
theorem disp_not {acc cl : Int} {l : List Po} {i : Nat} {day n : Int} (hd : day < 360) (h : ¬ (at' l i).kind = 1 ∨ rev l i = true ∨ cl = 12) : dispB acc l cl i day n = none := by
  by_cases hc : 0 ≤ (i : Int) ∧ (i : Int) < l.length ∧ 0 ≤ n ∧ n ≤ 1000000000
  · rw [dispB_ok hc, Int.toNat_natCast]
    have : postB acc l cl (back (at' l i) i day) = none := by
      unfold postB post
      rw [if_neg (fun hp => ?_)]
      · rfl
      · obtain ⟨_, hv, h30⟩ := hp
        obtain ⟨j, e, hj, k1, k2, -⟩ := (last_ok hv).2 rfl
        have e2 : j = i := by have : ((i : Int)) = j := e; omega
        subst e2
        rcases h with h | h | h
        · exact h k1
        · rw [k2] at h; cases h
        · have : 30 * cl ≤ day := h30
          omega
    rw [this]
  · exact dispB_bad hc
theorem rev_after {l : List Po} {i : Nat} {day n : Int} : rev (afterD l i day n) i = true := by
  have h1 : rev (l ++ [back (at' l i) i day]) i = true := by
    rw [rev_snoc]
    simp [back]
  unfold afterD
  split
  · exact h1
  · rw [rev_snoc, h1]
    rfl
theorem at_after {l : List Po} {i k : Nat} {day n : Int} (hk : k < l.length) : at' (afterD l i day n) k = at' l k := by
  unfold afterD
  split
  · exact at_left hk
  · rw [at_left (by rw [len_snoc]; omega), at_left hk]
/-- what a dispute does to an account -/
def chg (q : Po) (n : Int) (t : Nat) : Int := (if (t : Int) = q.cre then n - q.amt else 0) - (if (t : Int) = q.deb then n - q.amt else 0)
theorem chg_eq (q : Po) (day n : Int) (t : Nat) : chg q n t = - eff q t + eff (again q day n) t := by
  unfold chg eff again
  dsimp only
  split <;> split <;> omega
theorem oT_after {acc cl : Int} {l : List Po} {i : Nat} (hi : i < l.length) {day n : Int} (v1 : Vd acc (l ++ [back (at' l i) i day]) cl) (v2 : Vd acc (afterD l i day n) cl) (hk : (at' l i).kind = 1) (s : Int) (t : Nat) :
    oT (afterD l i day n) s t = oT l s t + if (at' l i).sub = s then chg (at' l i) n t else 0 := by
  have e1 := oT_back v1 (i := i) rfl rfl s t
  unfold afterD at v2 ⊢
  by_cases h0 : n = 0
  · rw [if_pos h0, e1, chg_eq (at' l i) day n]
    have : eff (again (at' l i) day n) t = 0 := by rw [h0]; unfold eff again; dsimp only; split <;> split <;> omega
    split <;> omega
  · rw [if_neg h0] at v2 ⊢
    rw [oT_fee v2 (show (again (at' l i) day n).kind = 1 from hk), e1, chg_eq (at' l i) day n, show (again (at' l i) day n).sub = (at' l i).sub from rfl]
    split <;> omega
theorem sT_after {l : List Po} {i : Nat} {day n : Int} (m : Int) (t : Nat) :
    sT (afterD l i day n) m t = sT l m t + if day.tdiv 30 = m then chg (at' l i) n t else 0 := by
  have e0 : eff (back (at' l i) i day) t = - eff (at' l i) t := eff_swap (p := back (at' l i) i day) (q := at' l i) rfl rfl rfl t
  unfold afterD
  by_cases h0 : n = 0
  · rw [if_pos h0, sT_snoc, chg_eq (at' l i) day n, show (back (at' l i) i day).day = day from rfl, e0]
    have : eff (again (at' l i) day n) t = 0 := by rw [h0]; unfold eff again; dsimp only; split <;> split <;> omega
    split <;> omega
  · rw [if_neg h0, sT_snoc, sT_snoc, chg_eq (at' l i) day n, show (back (at' l i) i day).day = day from rfl, show (again (at' l i) day n).day = day from rfl, e0]
    split <;> omega
/-- a store into one's own slice -/
theorem InW.set {w : World} {B0 b N c k : Nat} {l : List Int} (h : InW w B0 (some ⟨b, 0, none⟩) N c l) (x : Int) : InW (w.setCell ⟨b, k, none⟩ (.int .i64 x)) B0 (some ⟨b, 0, none⟩) N c (l.set k x) := by
  obtain ⟨hl, hO⟩ := h
  refine ⟨by rw [List.length_set]; exact hl, ?_⟩
  rcases hO.2 with ⟨h1, _⟩ | ⟨g, cap, cur, h1, hg, hb, hn, hm, hc, ht⟩
  · cases h1
  · cases h1
    have hr : Row (w.setCell ⟨b, k, none⟩ (.int .i64 x)) b 3 (cur.toList.set k (.int .i64 x)) := (show Row w b _ cur.toList from hb).set k _
    refine ⟨by rw [flat_len, List.length_set], .inr ⟨b, c, (cur.toList.set k (.int .i64 x)).toArray, ?_, hg, hr, ?_, hm, ?_, ?_⟩⟩
    · rw [List.length_set]
    · rw [List.length_set]; exact hn
    · simpa using hc
    · rw [List.length_set, List.toList_toArray, List.take_set, ht]
      have e : ∀ m : List Int, m.flatMap intE.f = m.map (Value.int .i64) := fun m => by
        rw [List.map_eq_flatMap]
        rfl
      rw [e, e, List.map_set]
theorem range_set (f : Nat → Int) (A k : Nat) (x : Int) : ((List.range A).map f).set k x = (List.range A).map fun j => if j = k then x else f j := by
  apply List.ext_getElem?
  intro j
  rw [List.getElem?_set]
  by_cases hj : j < A
  · rw [map_at _ hj]
    by_cases e : k = j
    · subst e
      rw [if_pos rfl, if_pos (by simpa using hj), map_at (fun j => if j = k then x else f j) hj, if_pos rfl]
    · rw [if_neg e, map_at _ hj, if_neg (fun h => e h.symm)]
  · rw [List.getElem?_eq_none (by simp; omega : ((List.range A).map fun j => if j = k then x else f j).length ≤ j)]
    split
    · rw [if_neg (by simp; omega)]
    · exact List.getElem?_eq_none (by simp; omega)
theorem range_ext {f g : Nat → Int} {A : Nat} (h : ∀ t, t < A → f t = g t) : (List.range A).map f = (List.range A).map g := List.map_congr_left fun t ht => h t (List.mem_range.1 ht)
end Bk
end Go.Proofs.Ytnhlhoijajhcjaa
