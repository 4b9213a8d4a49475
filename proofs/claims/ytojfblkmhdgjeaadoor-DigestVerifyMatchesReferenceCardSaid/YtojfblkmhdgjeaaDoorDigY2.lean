/- Same of the reference; chains, as mathematics. -/
import Derived.Test.YtojfblkmhdgjeaaDoorDigY
namespace Go.Proofs.YtojfblkmhdgjeaaDoor
open Go.RowKit Go.ChangeShapes Go.WideShapes Go.ChangeAt

theorem two_size : (⟨#[2]⟩ : ByteArray).size = 1 := rfl
theorem outZ_small : ∀ (Z : List ByteArray), (∀ x ∈ Z, x.size ≤ 60) → ∀ x ∈ outZ Z, x.size ≤ 100 := by
  intro Z
  induction Z with
  | nil => intro _ x hx; cases hx
  | cons p r ih =>
    intro h x hx
    rcases List.mem_cons.1 hx with rfl | hx
    · have h1 := hdZ_size r
      have h2 := h p (by simp)
      rw [app_cat, app_cat, catS_size, catS_size, two_size]
      omega
    · exact ih (fun q hq => h q (List.mem_cons_of_mem _ hq)) x hx
/-- the string past the shorter list -/
def pastZ (Z Y : List ByteArray) : Option ByteArray := if Y.length ≤ Z.length then (outZ Z)[Y.length]? else (outZ Y)[Z.length]?
/-- two lists of records with the same head: a collision, or a string of zeros past the shorter one, or the same records -/
theorem chain_collide : ∀ (A B : List ByteArray), hdZ A = hdZ B → collideS (outZ A) (outZ B) = true ∨ A = B ∨
    (B.length < A.length ∧ ∃ x, (outZ A)[B.length]? = some x ∧ sumS x = zero32) ∨ (A.length < B.length ∧ ∃ x, (outZ B)[A.length]? = some x ∧ sumS x = zero32)
  | [], [], _ => .inr (.inl rfl)
  | x :: A, [], h => .inr (.inr (.inl ⟨by simp, _, rfl, by rw [← chainS_app]; exact h⟩))
  | [], y :: B, h => .inr (.inr (.inr ⟨by simp, _, rfl, by rw [← chainS_app]; exact h.symm⟩))
  | x :: A, y :: B, h => by
    have h' : chainS (hdZ A) x = chainS (hdZ B) y := h
    rw [chainS_app, chainS_app] at h'
    by_cases e : (⟨#[2]⟩ ++ hdZ A ++ x : ByteArray) = ⟨#[2]⟩ ++ hdZ B ++ y
    · have e0 := app_inj e (by rw [app_cat, app_cat, catS_size, catS_size, hdZ_size, hdZ_size])
      have e2 := (app_inj e0.1 rfl).2
      rcases chain_collide A B e2 with hc | hc | ⟨hl, z, hz, hs⟩ | ⟨hl, z, hz, hs⟩
      · exact .inl (by simp [outZ, collideS, hc])
      · exact .inr (.inl (by rw [hc, e0.2]))
      · exact .inr (.inr (.inl ⟨by simpa using hl, z, by simpa [outZ] using hz, hs⟩))
      · exact .inr (.inr (.inr ⟨by simpa using hl, z, by simpa [outZ] using hz, hs⟩))
    · exact .inl (by simp [outZ, collideS, e, h'])

set_option maxRecDepth 100000 in
set_option maxHeartbeats 2000000 in
theorem Same_any (xs ys : List ByteArray) (o o' : Option Addr) (c c' : Nat) (w : World) (hS : StrSl w o xs) (hY : StrSl w o' ys) (hl : xs.length ≤ 2 ^ 30) (hl' : ys.length ≤ 2 ^ 30) :
    Calls Tryd.prog 26 #[.slice o xs.length c, .slice o' ys.length c'] w fun e w' => e = .returned (.bool (decide (xs = ys))) ∧ Below w.heap.size w w' := by
  have HX := Lib.hid hS
  have HY := Lib.hid hY
  have BB := Lib.hid (Below.refl w.heap.size w)
  obtain ⟨N, hN⟩ : ∃ N, xs.length = N := ⟨_, rfl⟩
  obtain ⟨M, hM⟩ : ∃ M, ys.length = M := ⟨_, rfl⟩
  rw [hN] at hl ⊢
  rw [hM] at hl' ⊢
  by_cases hNM : N = M
  · subst hNM
    have HN := Lib.hid hN
    have HM := Lib.hid hM
    clear hS hY hN hM
    go_enter Tryd.func26, Tryd.ntmps26
    go_wp2
    go_loopw [5] (fun i wr => ∃ k : Nat, i = .int .i64 k ∧ k ≤ N ∧ (∀ j, j < k → xs[j]? = ys[j]?) ∧ Below w.heap.size w wr) (fun i _ => N - (intOf i).toNat)
    case atStart => exact ⟨0, rfl, Nat.zero_le _, fun j hj => absurd hj (Nat.not_lt_zero _), Below.refl _ _⟩
    case round =>
      obtain ⟨k, rfl, hk, hcol, hB⟩ := hrel
      replace HX := Lib.hid (HX.out.next hB)
      replace HY := Lib.hid (HY.out.next hB)
      have BB2 := BB
      replace BB := Lib.hid hB
      have HB3 := Lib.hid hB.drew
      have HCOL := Lib.hid hcol
      clear hcol hB
      by_cases hlt : k < N
      · obtain ⟨x, hx⟩ : ∃ x, xs[k]? = some x := ⟨_, List.getElem?_eq_getElem (by rw [HN.out]; exact hlt)⟩
        obtain ⟨y, hy⟩ : ∃ y, ys[k]? = some y := ⟨_, List.getElem?_eq_getElem (by rw [HM.out]; exact hlt)⟩
        have HXX := Lib.hid hx
        have HYY := Lib.hid hy
        rcases HX.out with h | ⟨b, off, rfl, hb, hcb⟩
        · rw [h] at hx; simp at hx
        rcases HY.out with h | ⟨g, of2, rfl, hg, hcg⟩
        · rw [h] at hy; simp at hy
        have c1 := hcb k x hx
        have c2 := hcg k y hy
        have c3 : wr.drew.cell? ⟨b, off + k, none⟩ = some (.string x) := c1
        have c4 : wr.drew.cell? ⟨g, of2 + k, none⟩ = some (.string y) := c2
        clear hx hy hcb hcg
        by_cases hxy : x = y
        · subst hxy
          go_wp2_with fail
          go_region
          all_goals go_wp2_with fail
          all_goals
            refine ⟨⟨k + 1, by go_num, by omega, fun j hj => ?_, by first | exact BB.out | exact HB3.out⟩, by simp [intOf]; omega⟩
            rcases Nat.lt_succ_iff_lt_or_eq.1 hj with h | rfl
            · exact HCOL.out j h
            · rw [HXX.out, HYY.out]
        · have e1 : (x.toList == y.toList) = false := by rw [bytes_beq]; simpa using hxy
          have HNE := Lib.hid (show decide (xs = ys) = false by
            refine decide_eq_false fun h => hxy ?_
            have := HXX.out
            rw [h, HYY.out] at this
            exact (Option.some.inj this).symm)
          go_wp2_with fail
          go_region
          all_goals go_wp2_with fail
          all_goals go_ret
          all_goals exact ⟨retv (congrArg Value.bool HNE.out.symm), by first | exact BB.out | exact HB3.out⟩
      · obtain rfl : k = N := by omega
        have HEQ := Lib.hid (show decide (xs = ys) = true by
          refine decide_eq_true (List.ext_getElem? fun j => ?_)
          by_cases h : j < k
          · exact HCOL.out j h
          · rw [List.getElem?_eq_none (by rw [HN.out]; omega), List.getElem?_eq_none (by rw [HM.out]; omega)])
        clear hlt
        go_wp2_with fail
        go_ret
        exact ⟨retv (congrArg Value.bool HEQ.out.symm), BB.out⟩
  · have HNE := Lib.hid (show decide (xs = ys) = false from decide_eq_false fun h => hNM (by rw [← hN, ← hM, h]))
    have d1 : decide ((N : Int) = M) = false := by simp; omega
    have d2 : ((N : Int) == M) = false := by simp; omega
    clear hS hY hN hM
    go_enter Tryd.func26, Tryd.ntmps26
    go_wp2_with fail
    go_ret
    exact ⟨retv (congrArg Value.bool HNE.out.symm), BB.out⟩
end Go.Proofs.YtojfblkmhdgjeaaDoor
