/- pick; what two lists of numbers, postings and books have in common. -/
import Derived.Test.YtnhlhoijajhcjaaDoorBkRE
set_option linter.unusedVariables false
set_option linter.unusedSimpArgs false
set_option linter.unnecessarySimpa false
namespace Go.Proofs.YtnhlhoijajhcjaaDoor
open Go.RowKit
namespace Bk
open Sq
def pickZ (c n : Int) : Int := (if c < 0 then -(c + 1) else c) % n
set_option maxRecDepth 100000 in
theorem rpick_any (c n : Int) (w : World) (hc : inI c) (hn : 0 < n) (hn2 : n ≤ 1000000) :
    Calls Tryd.prog 28 #[.int .i64 c, .int .i64 n] w fun e w' => e = .returned (.int .i64 (pickZ c n)) ∧ w = w' := by
  obtain ⟨hc1, hc2⟩ := hc
  by_cases h : c < 0
  · have h0 : 0 ≤ -(c + 1) := by omega
    have e : (-(c + 1)).tmod n = pickZ c n := by rw [Int.tmod_eq_emod_of_nonneg h0]; simp [pickZ, h]
    have hm := Int.emod_nonneg (-(c + 1)) (show n ≠ 0 by omega)
    have hm2 := Int.emod_lt_of_pos (-(c + 1)) hn
    rw [← Int.tmod_eq_emod_of_nonneg h0] at hm hm2
    go_enter Tryd.func28, Tryd.ntmps28
    go_wp2_with fail
    go_ret
    exact ⟨rfl, rfl⟩
  · have h0 : 0 ≤ c := by omega
    have e : c.tmod n = pickZ c n := by rw [Int.tmod_eq_emod_of_nonneg h0]; simp [pickZ, h]
    have hm := Int.emod_nonneg c (show n ≠ 0 by omega)
    have hm2 := Int.emod_lt_of_pos c hn
    rw [← Int.tmod_eq_emod_of_nonneg h0] at hm hm2
    go_enter Tryd.func28, Tryd.ntmps28
    go_wp2_with fail
    go_ret
    exact ⟨rfl, rfl⟩
theorem pick_in (c : Int) {n : Int} (hn : 0 < n) : 0 ≤ pickZ c n ∧ pickZ c n < n := ⟨Int.emod_nonneg _ (by omega), Int.emod_lt_of_pos _ hn⟩
theorem same_yes {α : Type} {l m : List α} {n : Nat} (hl : l.length = n) (hm : m.length = n) (h : ∀ j : Nat, j < n → l[j]? = m[j]?) : l = m := by
  apply List.ext_getElem?
  intro j
  by_cases hj : j < n
  · exact h j hj
  · rw [List.getElem?_eq_none (by omega), List.getElem?_eq_none (by omega)]
set_option maxRecDepth 100000 in
set_option maxHeartbeats 4000000 in
theorem rInts_any (o1 : Option Addr) (n1 c1 : Nat) (o2 : Option Addr) (n2 c2 : Nat) (l1 l2 : List Int) (w : World) (h1 : l1.length = n1) (h2 : l2.length = n2) (hc : n1 ≤ 1000000) (g1 : n1 ≤ c1) (g2 : n2 ≤ c2) (S1 : Sl intE w o1 l1) (S2 : Sl intE w o2 l2) :
    Calls Tryd.prog 23 #[.slice o1 n1 c1, .slice o2 n2 c2] w fun e w' => e = .returned (.bool (decide (l1 = l2))) ∧ Below w.heap.size w w' := by
  have HS1 := Lib.hid S1
  have HS2 := Lib.hid S2
  have HL1 := Lib.hid h1
  have HL2 := Lib.hid h2
  obtain ⟨F, hF⟩ : ∃ F, decide (l1 = l2) = F := ⟨_, rfl⟩
  have HY := Lib.hid (show l1 = l2 → F = true from fun h => by rw [← hF]; exact decide_eq_true h)
  have HN := Lib.hid (show ¬ l1 = l2 → F = false from fun h => by rw [← hF]; exact decide_eq_false h)
  rw [hF]
  clear hF h1 h2 S1 S2
  by_cases hn : n1 = n2
  · subst hn
    go_enter Tryd.func23, Tryd.ntmps23
    go_wp2_with fail
    go_loopw [5] (fun jv wr => ∃ k : Nat, jv = .int .i64 k ∧ k ≤ n1 ∧ (∀ j : Nat, j < k → l1[j]? = l2[j]?) ∧ Below w.heap.size w wr) (fun jv _ => n1 - (intOf jv).toNat)
    case atStart => exact ⟨0, rfl, Nat.zero_le _, fun j h => absurd h (Nat.not_lt_zero _), Below.refl _ _⟩
    case round =>
      obtain ⟨k, rfl, hk, hall, hB⟩ := hrel
      rename World => wr
      have BB := Lib.hid hB
      have HA := Lib.hid hall
      replace HS1 := Lib.hid (HS1.out.next hB)
      replace HS2 := Lib.hid (HS2.out.next hB)
      clear hB hall
      by_cases hlt : k < n1
      · obtain ⟨b1, f1, rfl, -, -⟩ := HS1.out.cells (fun e => by have := HL1.out; rw [e] at this; simp at this; omega)
        obtain ⟨b2, f2, rfl, -, -⟩ := HS2.out.cells (fun e => by have := HL2.out; rw [e] at this; simp at this; omega)
        obtain ⟨x, hx⟩ : ∃ x, l1[k]? = some x := ⟨_, List.getElem?_eq_getElem (by rw [HL1.out]; exact hlt)⟩
        obtain ⟨y, hy⟩ : ∃ y, l2[k]? = some y := ⟨_, List.getElem?_eq_getElem (by rw [HL2.out]; exact hlt)⟩
        obtain ⟨lb1, k1⟩ := int_at HS1.out hx
        obtain ⟨lb2, k2⟩ := int_at HS2.out hy
        have HX := Lib.hid hx
        have HZ := Lib.hid hy
        clear hx hy
        have i0 : (0 : Int) ≤ k := by omega
        have i1 : (k : Int) < n1 := by omega
        by_cases hxy : x = y
        · subst hxy
          have HR := Lib.hid (show ∀ j : Nat, j < k + 1 → l1[j]? = l2[j]? from fun j h => by
            by_cases e : j = k
            · subst e; rw [HX.out, HZ.out]
            · exact HA.out j (by omega))
          clear HN HX HZ
          go_wp2_with fail
          go_region
          go_wp2_with fail
          go_roundw
          case rel => exact ⟨k + 1, by go_num, by omega, HR.out, BB.out.drew⟩
          case measure => first | (simp [intOf]; done) | (simp [intOf]; omega)
        · have HE := Lib.hid (HN.out (fun e => hxy (by
            have h := HX.out
            rw [e, HZ.out] at h
            exact (Option.some.inj h).symm)))
          have hxy2 : ¬ y = x := fun e => hxy e.symm
          clear HY HN HX HZ
          go_wp2_with fail
          go_region
          go_wp2_with fail
          go_ret
          exact ⟨by rw [HE.out]; rfl, BB.out.drew⟩
      · obtain rfl : k = n1 := by omega
        have HE := Lib.hid (HY.out (same_yes HL1.out HL2.out HA.out))
        go_wp2_with fail
        go_ret
        exact ⟨by rw [HE.out]; rfl, BB.out⟩
  · have HE := Lib.hid (HN.out (fun e => hn (by rw [← HL1.out, ← HL2.out, e])))
    go_enter Tryd.func23, Tryd.ntmps23
    go_wp2_with fail
    go_ret
    exact ⟨by rw [HE.out]; rfl, Below.refl _ _⟩
def nePo (k d a b c s f k' d' a' b' c' s' f' : Int) : Bool := !decide ((⟨k, d, a, b, c, s, f⟩ : Po) = ⟨k', d', a', b', c', s', f'⟩)
theorem nePo_of {p q : Po} (h : p ≠ q) : nePo p.kind p.day p.deb p.cre p.amt p.sub p.of q.kind q.day q.deb q.cre q.amt q.sub q.of = true := by
  unfold nePo
  rw [decide_eq_false h]
  rfl
theorem nePo_self (k d a b c s f : Int) : nePo k d a b c s f k d a b c s f = false := by
  unfold nePo
  rw [decide_eq_true rfl]
  rfl
set_option maxHeartbeats 2000000 in
theorem neq_po (w : World) (k d a b c s f k' d' a' b' c' s' f' : Int) : (binOp .neq 27 (.agg #[.int .i64 k, .int .i64 d, .int .i64 a, .int .i64 b, .int .i64 c, .int .i64 s, .int .i64 f]) (.agg #[.int .i64 k', .int .i64 d', .int .i64 a', .int .i64 b', .int .i64 c', .int .i64 s', .int .i64 f'])).run Tryd.prog w = .ok (.bool (nePo k d a b c s f k' d' a' b' c' s' f')) w := by
  by_cases h1 : k = k'
  · subst h1
    by_cases h2 : d = d'
    · subst h2
      by_cases h3 : a = a'
      · subst h3
        by_cases h4 : b = b'
        · subst h4
          by_cases h5 : c = c'
          · subst h5
            by_cases h6 : s = s'
            · subst h6
              by_cases h7 : f = f'
              · subst h7
                rw [nePo_self]
                simp [go_sem]
              · rw [nePo_of (p := ⟨_, _, _, _, _, _, _⟩) (q := ⟨_, _, _, _, _, _, _⟩) (by simp [h7])]
                simp [go_sem, h7]
            · rw [nePo_of (p := ⟨_, _, _, _, _, _, _⟩) (q := ⟨_, _, _, _, _, _, _⟩) (by simp [h6])]
              simp [go_sem, h6]
          · rw [nePo_of (p := ⟨_, _, _, _, _, _, _⟩) (q := ⟨_, _, _, _, _, _, _⟩) (by simp [h5])]
            simp [go_sem, h5]
        · rw [nePo_of (p := ⟨_, _, _, _, _, _, _⟩) (q := ⟨_, _, _, _, _, _, _⟩) (by simp [h4])]
          simp [go_sem, h4]
      · rw [nePo_of (p := ⟨_, _, _, _, _, _, _⟩) (q := ⟨_, _, _, _, _, _, _⟩) (by simp [h3])]
        simp [go_sem, h3]
    · rw [nePo_of (p := ⟨_, _, _, _, _, _, _⟩) (q := ⟨_, _, _, _, _, _, _⟩) (by simp [h2])]
      simp [go_sem, h2]
  · rw [nePo_of (p := ⟨_, _, _, _, _, _, _⟩) (q := ⟨_, _, _, _, _, _, _⟩) (by simp [h1])]
    simp [go_sem, h1]
attribute [local go_sem high] neq_po
set_option maxRecDepth 100000 in
set_option maxHeartbeats 4000000 in
theorem rSameP_any (o1 : Option Addr) (n1 c1 : Nat) (o2 : Option Addr) (n2 c2 : Nat) (l1 l2 : List Po) (w : World) (h1 : l1.length = n1) (h2 : l2.length = n2) (hc : n1 ≤ 2 ^ 40) (g1 : n1 ≤ c1) (g2 : n2 ≤ c2) (S1 : Sl poE w o1 l1) (S2 : Sl poE w o2 l2) :
    Calls Tryd.prog 14 #[.slice o1 n1 c1, .slice o2 n2 c2] w fun e w' => e = .returned (.bool (decide (l1 = l2))) ∧ Below w.heap.size w w' := by
  have HS1 := Lib.hid S1
  have HS2 := Lib.hid S2
  have HL1 := Lib.hid h1
  have HL2 := Lib.hid h2
  obtain ⟨F, hF⟩ : ∃ F, decide (l1 = l2) = F := ⟨_, rfl⟩
  have HY := Lib.hid (show l1 = l2 → F = true from fun h => by rw [← hF]; exact decide_eq_true h)
  have HN := Lib.hid (show ¬ l1 = l2 → F = false from fun h => by rw [← hF]; exact decide_eq_false h)
  rw [hF]
  clear hF h1 h2 S1 S2
  by_cases hn : n1 = n2
  · subst hn
    go_enter Tryd.func14, Tryd.ntmps14
    go_wp2_with fail
    go_loopw [5] (fun jv wr => ∃ k : Nat, jv = .int .i64 k ∧ k ≤ n1 ∧ (∀ j : Nat, j < k → l1[j]? = l2[j]?) ∧ Below w.heap.size w wr) (fun jv _ => n1 - (intOf jv).toNat)
    case atStart => exact ⟨0, rfl, Nat.zero_le _, fun j h => absurd h (Nat.not_lt_zero _), Below.refl _ _⟩
    case round =>
      obtain ⟨k, rfl, hk, hall, hB⟩ := hrel
      rename World => wr
      have BB := Lib.hid hB
      have HA := Lib.hid hall
      replace HS1 := Lib.hid (HS1.out.next hB)
      replace HS2 := Lib.hid (HS2.out.next hB)
      clear hB hall
      by_cases hlt : k < n1
      · obtain ⟨b1, f1, rfl, -, -⟩ := HS1.out.cells (fun e => by have := HL1.out; rw [e] at this; simp at this; omega)
        obtain ⟨b2, f2, rfl, -, -⟩ := HS2.out.cells (fun e => by have := HL2.out; rw [e] at this; simp at this; omega)
        obtain ⟨lb1, x0, x1, x2, x3, x4, x5, x6⟩ := sl_at HS1.out (k := k) (by rw [HL1.out]; exact hlt)
        obtain ⟨lb2, y0, y1, y2, y3, y4, y5, y6⟩ := sl_at HS2.out (k := k) (by rw [HL2.out]; exact hlt)
        have HX := Lib.hid (at_get (l := l1) (i := k) (by rw [HL1.out]; exact hlt))
        have HZ := Lib.hid (at_get (l := l2) (i := k) (by rw [HL2.out]; exact hlt))
        have i0 : (0 : Int) ≤ k := by omega
        have i1 : (k : Int) < n1 := by omega
        by_cases hxy : at' l1 k = at' l2 k
        · have HR := Lib.hid (show ∀ j : Nat, j < k + 1 → l1[j]? = l2[j]? from fun j h => by
            by_cases e : j = k
            · subst e; rw [HX.out, HZ.out, hxy]
            · exact HA.out j (by omega))
          clear HN HX HZ
          rw [hxy] at x0 x1 x2 x3 x4 x5 x6
          clear hxy
          generalize at' l2 k = q at *
          obtain ⟨kind, day, deb, cre, amt, sub, of⟩ := q
          dsimp only at x0 x1 x2 x3 x4 x5 x6 y0 y1 y2 y3 y4 y5 y6
          have hne := nePo_self kind day deb cre amt sub of
          go_wp2_with fail
          go_region
          go_wp2_with fail
          go_roundw
          case rel => exact ⟨k + 1, by go_num, by omega, HR.out, BB.out.drew⟩
          case measure => first | (simp [intOf]; done) | (simp [intOf]; omega)
        · have HE := Lib.hid (HN.out (fun e => hxy (by rw [e])))
          clear HY HN HX HZ HA
          generalize at' l1 k = p at *
          generalize at' l2 k = q at *
          have hne := nePo_of hxy
          obtain ⟨kind, day, deb, cre, amt, sub, of⟩ := q
          obtain ⟨kind', day', deb', cre', amt', sub', of'⟩ := p
          dsimp only [Po.v] at x0 x1 x2 x3 x4 x5 x6 y0 y1 y2 y3 y4 y5 y6 hne
          clear hxy
          go_wp2_with fail
          go_region
          go_wp2_with fail
          go_ret
          exact ⟨by rw [HE.out]; rfl, BB.out.drew⟩
      · obtain rfl : k = n1 := by omega
        have HE := Lib.hid (HY.out (same_yes HL1.out HL2.out HA.out))
        go_wp2_with fail
        go_ret
        exact ⟨by rw [HE.out]; rfl, BB.out⟩
  · have HE := Lib.hid (HN.out (fun e => hn (by rw [← HL1.out, ← HL2.out, e])))
    go_enter Tryd.func14, Tryd.ntmps14
    go_wp2_with fail
    go_ret
    exact ⟨by rw [HE.out]; rfl, Below.refl _ _⟩
end Bk
end Go.Proofs.YtnhlhoijajhcjaaDoor
