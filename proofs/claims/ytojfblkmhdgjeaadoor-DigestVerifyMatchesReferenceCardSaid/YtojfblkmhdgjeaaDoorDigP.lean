/- Proofs and extensions of trees, as mathematics. -/
import Derived.Test.YtojfblkmhdgjeaaDoorDigG
namespace Go.Proofs.YtojfblkmhdgjeaaDoor
open Go.RowKit

/-! ### the proof of an entry -/
def proofF : Nat → List ByteArray → Nat → List ByteArray
  | 0, _, _ => []
  | f + 1, xs, i => if xs.length ≤ 1 then [] else
    if i < splitN xs.length then proofF f (xs.take (splitN xs.length)) i ++ [rootS (xs.drop (splitN xs.length))]
    else proofF f (xs.drop (splitN xs.length)) (i - splitN xs.length) ++ [rootS (xs.take (splitN xs.length))]
def proofS (xs : List ByteArray) (i : Nat) : List ByteArray := proofF xs.length xs i
theorem proofF_fuel : ∀ (f g : Nat) (xs : List ByteArray) (i : Nat), xs.length ≤ f → xs.length ≤ g → proofF f xs i = proofF g xs i
  | 0, g, xs, i, hf, _ => by
    cases g with
    | zero => rfl
    | succ g => simp only [proofF]; rw [if_pos (by omega)]
  | f + 1, 0, xs, i, _, hg => by simp only [proofF]; rw [if_pos (by omega)]
  | f + 1, g + 1, xs, i, hf, hg => by
    simp only [proofF]
    split
    · rfl
    · have h2 : 2 ≤ xs.length := by omega
      have h1 := splitN_lt h2
      have h0 := splitN_pos xs.length
      rw [proofF_fuel f g (xs.take (splitN xs.length)) i (by rw [List.length_take]; omega) (by rw [List.length_take]; omega),
        proofF_fuel f g (xs.drop (splitN xs.length)) (i - splitN xs.length) (by rw [List.length_drop]; omega) (by rw [List.length_drop]; omega)]
theorem proofS_one {xs : List ByteArray} (h : xs.length ≤ 1) (i : Nat) : proofS xs i = [] := by
  unfold proofS
  cases e : xs.length with
  | zero => rfl
  | succ n => simp only [proofF]; rw [if_pos h]
theorem proofS_left {xs : List ByteArray} {i : Nat} (h : 2 ≤ xs.length) (hi : i < splitN xs.length) : proofS xs i = proofS (xs.take (splitN xs.length)) i ++ [rootS (xs.drop (splitN xs.length))] := by
  have h1 := splitN_lt h
  unfold proofS
  rw [proofF_fuel xs.length (xs.length + 1) xs i (Nat.le_refl _) (by omega)]
  simp only [proofF]
  rw [if_neg (by omega), if_pos hi, proofF_fuel xs.length (xs.take (splitN xs.length)).length _ i (by rw [List.length_take]; omega) (Nat.le_refl _)]
theorem proofS_right {xs : List ByteArray} {i : Nat} (h : 2 ≤ xs.length) (hi : ¬ i < splitN xs.length) : proofS xs i = proofS (xs.drop (splitN xs.length)) (i - splitN xs.length) ++ [rootS (xs.take (splitN xs.length))] := by
  have h1 := splitN_lt h
  unfold proofS
  rw [proofF_fuel xs.length (xs.length + 1) xs i (Nat.le_refl _) (by omega)]
  simp only [proofF]
  rw [if_neg (by omega), if_neg hi, proofF_fuel xs.length (xs.drop (splitN xs.length)).length _ _ (by rw [List.length_drop]; omega) (Nat.le_refl _)]

/-! ### the sides of a way to an entry, from the entry on -/
def sidesF : Nat → Nat → Nat → List Bool
  | 0, _, _ => []
  | f + 1, n, i => if n ≤ 1 then [] else if i < splitN n then sidesF f (splitN n) i ++ [true] else sidesF f (n - splitN n) (i - splitN n) ++ [false]
def sidesN (n i : Nat) : List Bool := sidesF n n i
theorem sidesF_fuel : ∀ (f g n i : Nat), n ≤ f → n ≤ g → sidesF f n i = sidesF g n i
  | 0, g, n, i, hf, _ => by
    cases g with
    | zero => rfl
    | succ g => simp only [sidesF]; rw [if_pos (by omega)]
  | f + 1, 0, n, i, _, hg => by simp only [sidesF]; rw [if_pos (by omega)]
  | f + 1, g + 1, n, i, hf, hg => by
    simp only [sidesF]
    split
    · rfl
    · have h2 : 2 ≤ n := by omega
      have h1 := splitN_lt h2
      have h0 := splitN_pos n
      rw [sidesF_fuel f g (splitN n) i (by omega) (by omega), sidesF_fuel f g (n - splitN n) (i - splitN n) (by omega) (by omega)]
theorem sidesN_one {n : Nat} (h : n ≤ 1) (i : Nat) : sidesN n i = [] := by
  unfold sidesN
  cases n with
  | zero => rfl
  | succ n => simp only [sidesF]; rw [if_pos h]
theorem sidesN_left {n i : Nat} (h : 2 ≤ n) (hi : i < splitN n) : sidesN n i = sidesN (splitN n) i ++ [true] := by
  have h1 := splitN_lt h
  unfold sidesN
  rw [sidesF_fuel n (n + 1) n i (Nat.le_refl _) (by omega)]
  simp only [sidesF]
  rw [if_neg (by omega), if_pos hi, sidesF_fuel n (splitN n) _ i (by omega) (Nat.le_refl _)]
theorem sidesN_right {n i : Nat} (h : 2 ≤ n) (hi : ¬ i < splitN n) : sidesN n i = sidesN (n - splitN n) (i - splitN n) ++ [false] := by
  have h1 := splitN_lt h
  have h0 := splitN_pos n
  unfold sidesN
  rw [sidesF_fuel n (n + 1) n i (Nat.le_refl _) (by omega)]
  simp only [sidesF]
  rw [if_neg (by omega), if_neg hi, sidesF_fuel n (n - splitN n) _ _ (by omega) (Nat.le_refl _)]
/-- how long ways are: at most as many as binary digits -/
theorem sidesN_len : ∀ (k n i : Nat), n ≤ 2 ^ k → (sidesN n i).length ≤ k := by
  intro k
  induction k with
  | zero => intro n i h; rw [sidesN_one (by simpa using h)]; simp
  | succ k ih =>
    intro n i h
    by_cases h1 : n ≤ 1
    · rw [sidesN_one h1]; simp
    · have h2 : 2 ≤ n := by omega
      have h3 := splitN_lt h2
      have h4 := splitN_le h2
      have h5 : splitN n ≤ 2 ^ k := by
        unfold splitN
        refine Nat.pow_le_pow_right (by decide) ?_
        have := (Nat.log2_lt (n := n - 1) (k := k + 1) (by omega)).2 (by omega)
        omega
      by_cases hi : i < splitN n
      · rw [sidesN_left h2 hi]
        have := ih (splitN n) i h5
        simp
        omega
      · rw [sidesN_right h2 hi]
        have := ih (n - splitN n) (i - splitN n) (by omega)
        simp
        omega
theorem proofS_len : ∀ (xs : List ByteArray) (i : Nat), (proofS xs i).length = (sidesN xs.length i).length := by
  intro xs
  induction hn : xs.length using Nat.strongRecOn generalizing xs with
  | ind n ih =>
    intro i
    subst hn
    by_cases h1 : xs.length ≤ 1
    · rw [proofS_one h1, sidesN_one h1]; rfl
    · have h2 : 2 ≤ xs.length := by omega
      have h3 := splitN_lt h2
      have h0 := splitN_pos xs.length
      by_cases hi : i < splitN xs.length
      · rw [proofS_left h2 hi, sidesN_left h2 hi]
        have := ih (splitN xs.length) h3 (xs.take (splitN xs.length)) (by rw [List.length_take]; omega) i
        simp [this]
      · rw [proofS_right h2 hi, sidesN_right h2 hi]
        have := ih (xs.length - splitN xs.length) (by omega) (xs.drop (splitN xs.length)) (by rw [List.length_drop]) (i - splitN xs.length)
        simp [this]

/-! ### the value of a proof -/
def joinV (l : Bool) (a x : ByteArray) : ByteArray := if l then nodeS a x else nodeS x a
def climb (v : ByteArray) (ls : List Bool) (ps : List ByteArray) : ByteArray := (ls.zip ps).foldl (fun v p => joinV p.1 v p.2) v
theorem climb_more (v : ByteArray) (ls : List Bool) (ps : List ByteArray) (l : Bool) (p : ByteArray) (h : ls.length = ps.length) : climb v (ls ++ [l]) (ps ++ [p]) = joinV l (climb v ls ps) p := by
  unfold climb
  rw [List.zip_append h, List.foldl_append]
  rfl
theorem joinV_size (l : Bool) (a x : ByteArray) : (joinV l a x).size = 32 := by unfold joinV; split <;> exact nodeS_size _ _
theorem climb_size (v : ByteArray) (hv : v.size = 32) (ls : List Bool) (ps : List ByteArray) : (climb v ls ps).size = 32 := by
  unfold climb
  generalize ls.zip ps = zs
  induction zs generalizing v with
  | nil => exact hv
  | cons z zs ih => exact ih _ (joinV_size _ _ _)
def allD (l : List ByteArray) : Bool := l.all fun s => s.size == 32
def verifyS (root : ByteArray) (n i : Int) (s : ByteArray) (proof : List ByteArray) : Bool :=
  decide (0 ≤ i) && decide (i < n) && allD proof && decide ((sidesN n.toNat i.toNat).length = proof.length) && decide (climb (leafS s) (sidesN n.toNat i.toNat) proof = root)

/-- the proof of an entry leads to the root -/
theorem proofS_climb_at : ∀ (N : Nat) (xs : List ByteArray), xs.length = N → ∀ (i : Nat) (x : ByteArray), xs[i]? = some x → climb (leafS x) (sidesN xs.length i) (proofS xs i) = rootS xs := by
  intro N
  induction N using Nat.strongRecOn with
  | ind n ih =>
    intro xs hn i x hx
    subst hn
    have h : i < xs.length := (List.getElem?_eq_some_iff.1 hx).1
    by_cases h1 : xs.length ≤ 1
    · rw [proofS_one h1, sidesN_one h1]
      match xs, h, h1, hx with
      | [y], h, _, hx =>
        obtain rfl : i = 0 := by simpa using h
        obtain rfl : y = x := by simpa using hx
        rfl
    · have h2 : 2 ≤ xs.length := by omega
      have h3 := splitN_lt h2
      have h0 := splitN_pos xs.length
      by_cases hi : i < splitN xs.length
      · have hl : (xs.take (splitN xs.length)).length = splitN xs.length := by rw [List.length_take]; omega
        rw [proofS_left h2 hi, sidesN_left h2 hi, climb_more _ _ _ _ _ (by rw [proofS_len, hl])]
        have := ih (splitN xs.length) h3 (xs.take (splitN xs.length)) hl i x (by rw [List.getElem?_take, if_pos hi]; exact hx)
        rw [hl] at this
        rw [this, rootS_split h2]
        rfl
      · have hl : (xs.drop (splitN xs.length)).length = xs.length - splitN xs.length := by rw [List.length_drop]
        rw [proofS_right h2 hi, sidesN_right h2 hi, climb_more _ _ _ _ _ (by rw [proofS_len, hl])]
        have := ih (xs.length - splitN xs.length) (by omega) (xs.drop (splitN xs.length)) hl (i - splitN xs.length) x (by rw [List.getElem?_drop, show splitN xs.length + (i - splitN xs.length) = i by omega]; exact hx)
        rw [hl] at this
        rw [this, rootS_split h2]
        rfl
theorem proofS_climb {xs : List ByteArray} {i : Nat} {x : ByteArray} (h : xs[i]? = some x) : climb (leafS x) (sidesN xs.length i) (proofS xs i) = rootS xs := proofS_climb_at _ xs rfl i x h
theorem proofS_allD : ∀ (xs : List ByteArray) (i : Nat), allD (proofS xs i) = true := by
  intro xs
  induction hn : xs.length using Nat.strongRecOn generalizing xs with
  | ind n ih =>
    intro i
    subst hn
    by_cases h1 : xs.length ≤ 1
    · rw [proofS_one h1]; rfl
    · have h2 : 2 ≤ xs.length := by omega
      have h3 := splitN_lt h2
      have h0 := splitN_pos xs.length
      by_cases hi : i < splitN xs.length
      · rw [proofS_left h2 hi]
        have := ih (splitN xs.length) h3 (xs.take (splitN xs.length)) (by rw [List.length_take]; omega) i
        unfold allD at *
        simp [rootS_size]
        simpa using this
      · rw [proofS_right h2 hi]
        have := ih (xs.length - splitN xs.length) (by omega) (xs.drop (splitN xs.length)) (by rw [List.length_drop]) (i - splitN xs.length)
        unfold allD at *
        simp [rootS_size]
        simpa using this
theorem proofS_ok {xs : List ByteArray} {i : Nat} {x : ByteArray} (h : xs[i]? = some x) : verifyS (rootS xs) xs.length i x (proofS xs i) = true := by
  have hl : i < xs.length := (List.getElem?_eq_some_iff.1 h).1
  unfold verifyS
  simp [proofS_allD, proofS_climb h, proofS_len]
  omega
end Go.Proofs.YtojfblkmhdgjeaaDoor
