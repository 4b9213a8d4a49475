/- collide, as a contract. -/
import Derived.Test.YtojfblkmhdgjeaaDoorDigW
import Derived.Test.YtojfblkmhdgjeaaDoorSlices
namespace Go.Proofs.YtojfblkmhdgjeaaDoor
open Go.RowKit Go.ChangeShapes Go.WideShapes Go.ChangeAt

theorem collideS_drop {xs ys : List ByteArray} {k : Nat} {x y : ByteArray} (hx : xs[k]? = some x) (hy : ys[k]? = some y) :
    collideS (xs.drop k) (ys.drop k) = ((decide (x ≠ y) && decide (sumS x = sumS y)) || collideS (xs.drop (k + 1)) (ys.drop (k + 1))) := by
  have e1 : xs.drop k = x :: xs.drop (k + 1) := by
    obtain ⟨h, rfl⟩ := List.getElem?_eq_some_iff.1 hx
    exact List.drop_eq_getElem_cons h
  have e2 : ys.drop k = y :: ys.drop (k + 1) := by
    obtain ⟨h, rfl⟩ := List.getElem?_eq_some_iff.1 hy
    exact List.drop_eq_getElem_cons h
  rw [e1, e2]
  rfl
theorem collideS_end {xs ys : List ByteArray} {k : Nat} (h : xs.length ≤ k ∨ ys.length ≤ k) : collideS (xs.drop k) (ys.drop k) = false := by
  rcases h with h | h
  · rw [List.drop_eq_nil_of_le h]; rfl
  · rw [List.drop_eq_nil_of_le h]
    cases xs.drop k <;> rfl
set_option maxRecDepth 100000 in
set_option maxHeartbeats 2000000 in
theorem collide_any (xs ys : List ByteArray) (o o' : Option Addr) (c c' : Nat) (w : World) (T : Tab w) (hS : StrSl w o xs) (hY : StrSl w o' ys) (hl : xs.length ≤ 2 ^ 30) (hl' : ys.length ≤ 2 ^ 30)
    (hx : ∀ x ∈ xs, x.size ≤ 2 ^ 38) (hy : ∀ x ∈ ys, x.size ≤ 2 ^ 38) :
    Calls Tryd.prog 35 #[.slice o xs.length c, .slice o' ys.length c'] w fun e w' => e = .returned (.bool (collideS xs ys)) ∧ Below w.heap.size w w' := by
  have HT := Lib.hid T
  have HX := Lib.hid hS
  have HY := Lib.hid hY
  have HXS := Lib.hid hx
  have HYS := Lib.hid hy
  have BB := Lib.hid (Below.refl w.heap.size w)
  obtain ⟨N, hN⟩ : ∃ N, xs.length = N := ⟨_, rfl⟩
  obtain ⟨M, hM⟩ : ∃ M, ys.length = M := ⟨_, rfl⟩
  rw [hN] at hl ⊢
  rw [hM] at hl' ⊢
  have HN := Lib.hid hN
  have HM := Lib.hid hM
  clear T hS hY hx hy hN hM
  go_enter Tryd.func35, Tryd.ntmps35
  go_wp2
  go_loopw [5] (fun i wr => ∃ k : Nat, i = .int .i64 k ∧ k ≤ N ∧ k ≤ M ∧ collideS xs ys = collideS (xs.drop k) (ys.drop k) ∧ Below w.heap.size w wr) (fun i _ => N - (intOf i).toNat)
  case atStart => exact ⟨0, rfl, Nat.zero_le _, Nat.zero_le _, rfl, Below.refl _ _⟩
  case round =>
    obtain ⟨k, rfl, hk, hkM, hcol, hB⟩ := hrel
    replace HT := Lib.hid (HT.out.next hB)
    replace HX := Lib.hid (HX.out.next hB)
    replace HY := Lib.hid (HY.out.next hB)
    have BB2 := BB
    replace BB := Lib.hid hB
    have HCOL := Lib.hid hcol
    clear hcol hB
    by_cases hlt : k < N ∧ k < M
    · obtain ⟨h1, h2⟩ := hlt
      obtain ⟨x, hx⟩ : ∃ x, xs[k]? = some x := ⟨_, List.getElem?_eq_getElem (by rw [HN.out]; exact h1)⟩
      obtain ⟨y, hy⟩ : ∃ y, ys[k]? = some y := ⟨_, List.getElem?_eq_getElem (by rw [HM.out]; exact h2)⟩
      have hsx := HXS.out x (List.mem_of_getElem? hx)
      have hsy := HYS.out y (List.mem_of_getElem? hy)
      have HC2 := Lib.hid (HCOL.out.trans (collideS_drop hx hy))
      rcases HX.out with h | ⟨b, off, rfl, hb, hcb⟩
      · rw [h] at hx; simp at hx
      rcases HY.out with h | ⟨g, of2, rfl, hg, hcg⟩
      · rw [h] at hy; simp at hy
      have c1 := hcb k x hx
      have c2 := hcg k y hy
      clear hx hy hcb hcg
      have D0 := Lib.hid (fun (K : Kin wr) => Sum_any x K.it (HT.out.next K.below) (by omega))
      have D1 := Lib.hid (fun (K : Kin wr) => Sum_any y K.it (HT.out.next K.below) (by omega))
      clear hsx hsy
      by_cases hxy : x = y
      · subst hxy
        go_wp2_with fail
        refine wp_region_kin (by kernel_rfl) (by kernel_rfl) wr.heap.size 0 (by simp) (fun hk => ?_)
        repeat (go_big_quiet_step (fail))
        refine wpQuiet_nil ?_
        clear hk
        intro w10 hb
        have HB2 := Lib.hid (Below.andThen BB.out hb)
        clear hb
        go_wp2_with fail
        refine ⟨⟨k + 1, by go_num, by omega, by omega, HC2.out.trans (by simp), HB2.out⟩, by simp [intOf]; omega⟩
      · have e1 : (x.toList == y.toList) = false := by rw [bytes_beq]; simpa using hxy
        have e2 : decide (x = y) = false := by simpa using hxy
        have e3 : decide (x ≠ y) = true := by simpa using hxy
        rw [e3, Bool.true_and] at HC2
        generalize sumS x = X at *
        generalize sumS y = Y at *
        by_cases hs : X = Y
        · subst hs
          go_wp2_with fail
          refine wp_region_kin (by kernel_rfl) (by kernel_rfl) wr.heap.size 0 (by simp) (fun hk => ?_)
          repeat (go_big_quiet_step (first | (go_at_call 13; first | with_reducible exact Calls.kin (D0.out _) | with_reducible exact Calls.kin (D1.out _))))
          refine wpQuiet_nil ?_
          clear hk
          intro w10 hb
          have HB2 := Lib.hid (Below.andThen BB.out hb)
          clear hb
          go_wp2_with fail
          go_ret
          exact ⟨by rw [HC2.out]; simp, HB2.out⟩
        · have f1 : (X.toList == Y.toList) = false := by rw [bytes_beq]; simpa using hs
          have f2 : decide (X = Y) = false := by simpa using hs
          go_wp2_with fail
          refine wp_region_kin (by kernel_rfl) (by kernel_rfl) wr.heap.size 0 (by simp) (fun hk => ?_)
          repeat (go_big_quiet_step (first | (go_at_call 13; first | with_reducible exact Calls.kin (D0.out _) | with_reducible exact Calls.kin (D1.out _))))
          refine wpQuiet_nil ?_
          clear hk
          intro w10 hb
          have HB2 := Lib.hid (Below.andThen BB.out hb)
          clear hb
          go_wp2_with fail
          refine ⟨⟨k + 1, by go_num, by omega, by omega, HC2.out.trans (by simp [f2]), HB2.out⟩, by simp [intOf]; omega⟩
    · have he : collideS xs ys = false := HCOL.out.trans (collideS_end (by rw [HN.out, HM.out]; omega))
      by_cases h1 : k < N
      · have h2 : ¬ k < M := fun h => hlt ⟨h1, h⟩
        have d1 : decide ((k : Int) < M) = false := by simp; omega
        clear hlt
        go_wp2_with fail
        go_ret
        exact ⟨retv (congrArg Value.bool he.symm), BB.out⟩
      · have d1 : decide ((k : Int) < N) = false := by simp; omega
        clear hlt
        go_wp2_with fail
        go_ret
        exact ⟨retv (congrArg Value.bool he.symm), BB.out⟩
end Go.Proofs.YtojfblkmhdgjeaaDoor
