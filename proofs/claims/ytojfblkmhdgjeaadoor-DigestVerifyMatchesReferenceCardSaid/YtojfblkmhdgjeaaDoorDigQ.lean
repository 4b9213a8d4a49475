/- Extensions of trees, as mathematics. -/
import Derived.Test.YtojfblkmhdgjeaaDoorDigP
namespace Go.Proofs.YtojfblkmhdgjeaaDoor
open Go.RowKit

theorem splitN_mid {n m : Nat} (h : 2 ≤ n) (h1 : splitN n < m) (h2 : m ≤ n) : splitN m = splitN n := by
  have h3 := splitN_le h
  exact splitN_is h1 (by rw [Nat.pow_succ]; unfold splitN at h3; omega)

def xsF : Nat → Nat → Nat → List Bool
  | 0, _, _ => []
  | f + 1, n, m => if n ≤ m then [] else if m ≤ splitN n then xsF f (splitN n) m ++ [true] else xsF f (n - splitN n) (m - splitN n) ++ [false]
def wholeF : Nat → Nat → Nat → Bool
  | 0, _, _ => true
  | f + 1, n, m => if n ≤ m then true else if m ≤ splitN n then wholeF f (splitN n) m else false
def firstF : Nat → List ByteArray → Nat → ByteArray
  | 0, xs, _ => rootS xs
  | f + 1, xs, m => if xs.length ≤ m then rootS xs else if m ≤ splitN xs.length then firstF f (xs.take (splitN xs.length)) m else firstF f (xs.drop (splitN xs.length)) (m - splitN xs.length)
def restF : Nat → List ByteArray → Nat → List ByteArray
  | 0, _, _ => []
  | f + 1, xs, m => if xs.length ≤ m then [] else if m ≤ splitN xs.length then restF f (xs.take (splitN xs.length)) m ++ [rootS (xs.drop (splitN xs.length))]
    else restF f (xs.drop (splitN xs.length)) (m - splitN xs.length) ++ [rootS (xs.take (splitN xs.length))]
/-- the sides of the way to the end of the old entries; whether that way never goes right; what stands at its end; what stands beside it -/
def xsN (n m : Nat) : List Bool := xsF n n m
def wholeN (n m : Nat) : Bool := wholeF n n m
def firstS (xs : List ByteArray) (m : Nat) : ByteArray := firstF xs.length xs m
def restS (xs : List ByteArray) (m : Nat) : List ByteArray := restF xs.length xs m

/-- the same with any fuel, as long as m is at least 1 -/
theorem xsF_fuel : ∀ (f g n m : Nat), 1 ≤ m → n ≤ f → n ≤ g → xsF f n m = xsF g n m
  | 0, g, n, m, hm, hf, _ => by
    cases g with
    | zero => rfl
    | succ g => simp only [xsF]; rw [if_pos (by omega)]
  | f + 1, 0, n, m, hm, _, hg => by simp only [xsF]; rw [if_pos (by omega)]
  | f + 1, g + 1, n, m, hm, hf, hg => by
    simp only [xsF]
    by_cases h : n ≤ m
    · rw [if_pos h, if_pos h]
    · have h1 := splitN_lt (n := n) (by omega)
      have h0 := splitN_pos n
      rw [if_neg h, if_neg h]
      by_cases hk : m ≤ splitN n
      · rw [if_pos hk, if_pos hk, xsF_fuel f g (splitN n) m hm (by omega) (by omega)]
      · rw [if_neg hk, if_neg hk, xsF_fuel f g (n - splitN n) (m - splitN n) (by omega) (by omega) (by omega)]
theorem wholeF_fuel : ∀ (f g n m : Nat), 1 ≤ m → n ≤ f → n ≤ g → wholeF f n m = wholeF g n m
  | 0, g, n, m, hm, hf, _ => by
    cases g with
    | zero => rfl
    | succ g => simp only [wholeF]; rw [if_pos (by omega)]
  | f + 1, 0, n, m, hm, _, hg => by simp only [wholeF]; rw [if_pos (by omega)]
  | f + 1, g + 1, n, m, hm, hf, hg => by
    simp only [wholeF]
    by_cases h : n ≤ m
    · rw [if_pos h, if_pos h]
    · have h1 := splitN_lt (n := n) (by omega)
      rw [if_neg h, if_neg h]
      by_cases hk : m ≤ splitN n
      · rw [if_pos hk, if_pos hk, wholeF_fuel f g (splitN n) m hm (by omega) (by omega)]
      · rw [if_neg hk, if_neg hk]
theorem firstF_fuel : ∀ (f g : Nat) (xs : List ByteArray) (m : Nat), 1 ≤ m → xs.length ≤ f → xs.length ≤ g → firstF f xs m = firstF g xs m
  | 0, g, xs, m, hm, hf, _ => by
    cases g with
    | zero => rfl
    | succ g => simp only [firstF]; rw [if_pos (by omega)]
  | f + 1, 0, xs, m, hm, _, hg => by simp only [firstF]; rw [if_pos (by omega)]
  | f + 1, g + 1, xs, m, hm, hf, hg => by
    simp only [firstF]
    by_cases h : xs.length ≤ m
    · rw [if_pos h, if_pos h]
    · have h1 := splitN_lt (n := xs.length) (by omega)
      have h0 := splitN_pos xs.length
      rw [if_neg h, if_neg h]
      by_cases hk : m ≤ splitN xs.length
      · rw [if_pos hk, if_pos hk, firstF_fuel f g _ m hm (by rw [List.length_take]; omega) (by rw [List.length_take]; omega)]
      · rw [if_neg hk, if_neg hk, firstF_fuel f g _ (m - splitN xs.length) (by omega) (by rw [List.length_drop]; omega) (by rw [List.length_drop]; omega)]
theorem restF_fuel : ∀ (f g : Nat) (xs : List ByteArray) (m : Nat), 1 ≤ m → xs.length ≤ f → xs.length ≤ g → restF f xs m = restF g xs m
  | 0, g, xs, m, hm, hf, _ => by
    cases g with
    | zero => rfl
    | succ g => simp only [restF]; rw [if_pos (by omega)]
  | f + 1, 0, xs, m, hm, _, hg => by simp only [restF]; rw [if_pos (by omega)]
  | f + 1, g + 1, xs, m, hm, hf, hg => by
    simp only [restF]
    by_cases h : xs.length ≤ m
    · rw [if_pos h, if_pos h]
    · have h1 := splitN_lt (n := xs.length) (by omega)
      have h0 := splitN_pos xs.length
      rw [if_neg h, if_neg h]
      by_cases hk : m ≤ splitN xs.length
      · rw [if_pos hk, if_pos hk, restF_fuel f g _ m hm (by rw [List.length_take]; omega) (by rw [List.length_take]; omega)]
      · rw [if_neg hk, if_neg hk, restF_fuel f g _ (m - splitN xs.length) (by omega) (by rw [List.length_drop]; omega) (by rw [List.length_drop]; omega)]

section
variable {n m : Nat}
theorem xsN_end (h : n ≤ m) : xsN n m = [] := by unfold xsN; cases n with | zero => rfl | succ n => simp only [xsF]; rw [if_pos h]
theorem wholeN_end (h : n ≤ m) : wholeN n m = true := by unfold wholeN; cases n with | zero => rfl | succ n => simp only [wholeF]; rw [if_pos h]
theorem xsN_left (h1 : 1 ≤ m) (h : m < n) (hk : m ≤ splitN n) : xsN n m = xsN (splitN n) m ++ [true] := by
  have h1' := splitN_lt (n := n) (by omega)
  unfold xsN
  rw [xsF_fuel n (n + 1) n m h1 (Nat.le_refl _) (by omega)]
  simp only [xsF]
  rw [if_neg (by omega), if_pos hk, xsF_fuel n (splitN n) _ m h1 (by omega) (Nat.le_refl _)]
theorem xsN_right (h1 : 1 ≤ m) (h : m < n) (hk : ¬ m ≤ splitN n) : xsN n m = xsN (n - splitN n) (m - splitN n) ++ [false] := by
  have h1' := splitN_lt (n := n) (by omega)
  have h0 := splitN_pos n
  unfold xsN
  rw [xsF_fuel n (n + 1) n m h1 (Nat.le_refl _) (by omega)]
  simp only [xsF]
  rw [if_neg (by omega), if_neg hk, xsF_fuel n (n - splitN n) _ _ (by omega) (by omega) (Nat.le_refl _)]
theorem wholeN_left (h1 : 1 ≤ m) (h : m < n) (hk : m ≤ splitN n) : wholeN n m = wholeN (splitN n) m := by
  have h1' := splitN_lt (n := n) (by omega)
  unfold wholeN
  rw [wholeF_fuel n (n + 1) n m h1 (Nat.le_refl _) (by omega)]
  simp only [wholeF]
  rw [if_neg (by omega), if_pos hk, wholeF_fuel n (splitN n) _ m h1 (by omega) (Nat.le_refl _)]
theorem wholeN_right (h1 : 1 ≤ m) (h : m < n) (hk : ¬ m ≤ splitN n) : wholeN n m = false := by
  unfold wholeN
  rw [wholeF_fuel n (n + 1) n m h1 (Nat.le_refl _) (by omega)]
  simp only [wholeF]
  rw [if_neg (by omega), if_neg hk]
variable {xs : List ByteArray}
theorem firstS_end (h : xs.length ≤ m) : firstS xs m = rootS xs := by
  unfold firstS
  generalize hn : xs.length = k
  cases k with
  | zero => rfl
  | succ n => simp only [firstF]; rw [if_pos h]
theorem restS_end (h : xs.length ≤ m) : restS xs m = [] := by
  unfold restS
  generalize hn : xs.length = k
  cases k with
  | zero => rfl
  | succ n => simp only [restF]; rw [if_pos h]
theorem firstS_left (h1 : 1 ≤ m) (h : m < xs.length) (hk : m ≤ splitN xs.length) : firstS xs m = firstS (xs.take (splitN xs.length)) m := by
  have h1' := splitN_lt (n := xs.length) (by omega)
  unfold firstS
  rw [firstF_fuel xs.length (xs.length + 1) xs m h1 (Nat.le_refl _) (by omega)]
  simp only [firstF]
  rw [if_neg (by omega), if_pos hk, firstF_fuel xs.length (xs.take (splitN xs.length)).length _ m h1 (by rw [List.length_take]; omega) (Nat.le_refl _)]
theorem firstS_right (h1 : 1 ≤ m) (h : m < xs.length) (hk : ¬ m ≤ splitN xs.length) : firstS xs m = firstS (xs.drop (splitN xs.length)) (m - splitN xs.length) := by
  have h0 := splitN_pos xs.length
  unfold firstS
  rw [firstF_fuel xs.length (xs.length + 1) xs m h1 (Nat.le_refl _) (by omega)]
  simp only [firstF]
  rw [if_neg (by omega), if_neg hk, firstF_fuel xs.length (xs.drop (splitN xs.length)).length _ _ (by omega) (by rw [List.length_drop]; omega) (Nat.le_refl _)]
theorem restS_left (h1 : 1 ≤ m) (h : m < xs.length) (hk : m ≤ splitN xs.length) : restS xs m = restS (xs.take (splitN xs.length)) m ++ [rootS (xs.drop (splitN xs.length))] := by
  have h1' := splitN_lt (n := xs.length) (by omega)
  unfold restS
  rw [restF_fuel xs.length (xs.length + 1) xs m h1 (Nat.le_refl _) (by omega)]
  simp only [restF]
  rw [if_neg (by omega), if_pos hk, restF_fuel xs.length (xs.take (splitN xs.length)).length _ m h1 (by rw [List.length_take]; omega) (Nat.le_refl _)]
theorem restS_right (h1 : 1 ≤ m) (h : m < xs.length) (hk : ¬ m ≤ splitN xs.length) : restS xs m = restS (xs.drop (splitN xs.length)) (m - splitN xs.length) ++ [rootS (xs.take (splitN xs.length))] := by
  have h0 := splitN_pos xs.length
  unfold restS
  rw [restF_fuel xs.length (xs.length + 1) xs m h1 (Nat.le_refl _) (by omega)]
  simp only [restF]
  rw [if_neg (by omega), if_neg hk, restF_fuel xs.length (xs.drop (splitN xs.length)).length _ _ (by omega) (by rw [List.length_drop]; omega) (Nat.le_refl _)]
end

/-- the value of the old entries -/
def shortV (v : ByteArray) (ls : List Bool) (ps : List ByteArray) : ByteArray := (ls.zip ps).foldl (fun v p => if p.1 then v else nodeS p.2 v) v
theorem shortV_more (v : ByteArray) (ls : List Bool) (ps : List ByteArray) (l : Bool) (p : ByteArray) (h : ls.length = ps.length) : shortV v (ls ++ [l]) (ps ++ [p]) = if l then shortV v ls ps else nodeS p (shortV v ls ps) := by
  unfold shortV
  rw [List.zip_append h, List.foldl_append]
  rfl
theorem shortV_size (v : ByteArray) (hv : v.size = 32) (ls : List Bool) (ps : List ByteArray) : (shortV v ls ps).size = 32 := by
  unfold shortV
  generalize ls.zip ps = zs
  induction zs generalizing v with
  | nil => exact hv
  | cons z zs ih => exact ih _ (by dsimp only; split; exact hv; exact nodeS_size _ _)

theorem xsN_len : ∀ (k n m : Nat), 1 ≤ m → n ≤ 2 ^ k → (xsN n m).length ≤ k := by
  intro k
  induction k with
  | zero => intro n m hm h; rw [xsN_end (by simp at h; omega)]; simp
  | succ k ih =>
    intro n m hm h
    by_cases h1 : n ≤ m
    · rw [xsN_end h1]; simp
    · have h2 : 2 ≤ n := by omega
      have h3 := splitN_lt h2
      have h4 := splitN_le h2
      have h5 : splitN n ≤ 2 ^ k := by
        unfold splitN
        refine Nat.pow_le_pow_right (by decide) ?_
        have := (Nat.log2_lt (n := n - 1) (k := k + 1) (by omega)).2 (by omega)
        omega
      by_cases hi : m ≤ splitN n
      · rw [xsN_left hm (by omega) hi]
        have := ih (splitN n) m hm h5
        simp
        omega
      · rw [xsN_right hm (by omega) hi]
        have := ih (n - splitN n) (m - splitN n) (by omega) (by omega)
        simp
        omega

/-- all that is known of what stands at the end of the way and beside it -/
structure ExtOk (xs : List ByteArray) (m : Nat) : Prop where
  len : (restS xs m).length = (xsN xs.length m).length
  all : allD (restS xs m) = true
  first : (firstS xs m).size = 32
  long : climb (firstS xs m) (xsN xs.length m) (restS xs m) = rootS xs
  short : shortV (firstS xs m) (xsN xs.length m) (restS xs m) = rootS (xs.take m)
  whole : wholeN xs.length m = true → firstS xs m = rootS (xs.take m)
theorem allD_more {l : List ByteArray} {x : ByteArray} (h : allD l = true) (hx : x.size = 32) : allD (l ++ [x]) = true := by
  unfold allD at *
  simp only [List.all_append, h, Bool.true_and]
  simp [hx]
theorem extOk : ∀ (N : Nat) (xs : List ByteArray), xs.length = N → ∀ m, 1 ≤ m → m ≤ xs.length → ExtOk xs m := by
  intro N
  induction N using Nat.strongRecOn with
  | ind n ih =>
    intro xs hn m hm hmn
    subst hn
    by_cases h : xs.length ≤ m
    · have ht : xs.take m = xs := List.take_of_length_le h
      refine ⟨?_, ?_, ?_, ?_, ?_, ?_⟩
      · rw [restS_end h, xsN_end h]; rfl
      · rw [restS_end h]; rfl
      · rw [firstS_end h]; exact rootS_size _
      · rw [restS_end h, xsN_end h, firstS_end h]; rfl
      · rw [restS_end h, xsN_end h, firstS_end h, ht]; rfl
      · intro _; rw [firstS_end h, ht]
    · have hlt : m < xs.length := by omega
      have h2 : 2 ≤ xs.length := by omega
      have h3 := splitN_lt h2
      have h0 := splitN_pos xs.length
      by_cases hk : m ≤ splitN xs.length
      · have hl : (xs.take (splitN xs.length)).length = splitN xs.length := by rw [List.length_take]; omega
        have I := ih (splitN xs.length) h3 (xs.take (splitN xs.length)) hl m hm (by omega)
        have ht : (xs.take (splitN xs.length)).take m = xs.take m := by rw [List.take_take, Nat.min_eq_left hk]
        have I1 := I.len
        have I4 := I.long
        have I5 := I.short
        have I6 := I.whole
        rw [hl] at I1 I4 I5 I6
        rw [ht] at I5 I6
        refine ⟨?_, ?_, ?_, ?_, ?_, ?_⟩
        · rw [restS_left hm hlt hk, xsN_left hm hlt hk]; simp [I1]
        · rw [restS_left hm hlt hk]; exact allD_more I.all (rootS_size _)
        · rw [firstS_left hm hlt hk]; exact I.first
        · rw [restS_left hm hlt hk, xsN_left hm hlt hk, firstS_left hm hlt hk, climb_more _ _ _ _ _ I1.symm, I4, rootS_split h2]; rfl
        · rw [restS_left hm hlt hk, xsN_left hm hlt hk, firstS_left hm hlt hk, shortV_more _ _ _ _ _ I1.symm, I5]; rfl
        · intro hw
          rw [wholeN_left hm hlt hk] at hw
          rw [firstS_left hm hlt hk]
          exact I6 hw
      · have hl : (xs.drop (splitN xs.length)).length = xs.length - splitN xs.length := by rw [List.length_drop]
        have I := ih (xs.length - splitN xs.length) (by omega) (xs.drop (splitN xs.length)) hl (m - splitN xs.length) (by omega) (by omega)
        have I1 := I.len
        have I4 := I.long
        have I5 := I.short
        rw [hl] at I1 I4 I5
        have hs : splitN (xs.take m).length = splitN xs.length := by
          rw [List.length_take, Nat.min_eq_left (by omega)]
          exact splitN_mid h2 (by omega) (by omega)
        refine ⟨?_, ?_, ?_, ?_, ?_, ?_⟩
        · rw [restS_right hm hlt hk, xsN_right hm hlt hk]; simp [I1]
        · rw [restS_right hm hlt hk]; exact allD_more I.all (rootS_size _)
        · rw [firstS_right hm hlt hk]; exact I.first
        · rw [restS_right hm hlt hk, xsN_right hm hlt hk, firstS_right hm hlt hk, climb_more _ _ _ _ _ I1.symm, I4, rootS_split h2]; rfl
        · rw [restS_right hm hlt hk, xsN_right hm hlt hk, firstS_right hm hlt hk, shortV_more _ _ _ _ _ I1.symm, I5]
          rw [rootS_split (xs := xs.take m) (by rw [List.length_take]; omega), hs, List.take_take, Nat.min_eq_left (by omega), List.drop_take]
          rfl
        · intro hw
          rw [wholeN_right hm hlt hk] at hw
          cases hw

/-- Extension -/
def extS (xs : List ByteArray) (m : Nat) : List ByteArray := if m = 0 then [] else (if wholeN xs.length m then [] else [firstS xs m]) ++ restS xs m
/-- VerifyExtension behind its first tests: m at least 1 and at most n, all digests -/
def extTest (old : ByteArray) (m : Nat) (root : ByteArray) (n : Nat) (ps : List ByteArray) : Bool :=
  if wholeN n m then decide ((xsN n m).length = ps.length) && (decide (shortV old (xsN n m) ps = old) && decide (climb old (xsN n m) ps = root))
  else match ps with
    | [] => false
    | f :: r => decide ((xsN n m).length = r.length) && (decide (shortV f (xsN n m) r = old) && decide (climb f (xsN n m) r = root))
def verExtS (old : ByteArray) (m : Int) (root : ByteArray) (n : Int) (ps : List ByteArray) : Bool :=
  decide (0 ≤ m) && decide (m ≤ n) && allD [old, root] && allD ps &&
  (if m = 0 then decide (ps = []) && decide (old = sumS ⟨#[]⟩) else extTest old m.toNat root n.toNat ps)

theorem extS_len {xs : List ByteArray} {m k : Nat} (hm : m ≤ xs.length) (hk : xs.length ≤ 2 ^ k) : (extS xs m).length ≤ k + 1 := by
  by_cases h0 : m = 0
  · simp [extS, h0]
  · have O := extOk xs.length xs rfl m (by omega) hm
    have h1 := xsN_len k xs.length m (by omega) hk
    unfold extS
    rw [if_neg h0, List.length_append, O.len]
    split <;> simp <;> omega
theorem extS_ok (xs : List ByteArray) (m : Nat) (hm : m ≤ xs.length) : verExtS (rootS (xs.take m)) m (rootS xs) xs.length (extS xs m) = true := by
  have ha : allD [rootS (xs.take m), rootS xs] = true := by simp [allD, rootS_size]
  by_cases h0 : m = 0
  · subst h0
    have e : extS xs 0 = [] := by simp [extS]
    unfold verExtS
    rw [ha, e]
    simp [allD]
    rfl
  · have O := extOk xs.length xs rfl m (by omega) hm
    unfold verExtS extS
    rw [ha, if_neg h0]
    have h1 : ¬ (m : Int) = 0 := by omega
    simp only [h1, if_false, Int.toNat_natCast]
    have ha2 : allD ((if wholeN xs.length m = true then [] else [firstS xs m]) ++ restS xs m) = true := by
      unfold allD
      rw [List.all_append]
      have := O.all
      unfold allD at this
      rw [this]
      split <;> simp [O.first]
    rw [ha2]
    unfold extTest
    cases hw : wholeN xs.length m
    · simp only [Bool.false_eq_true, if_false, List.cons_append, List.nil_append]
      simp [O.len, O.long, O.short]
      omega
    · simp only [if_true, List.nil_append]
      have e := O.whole hw
      have l := O.long
      have s := O.short
      rw [e] at l s
      simp [O.len, l, s]
      omega
end Go.Proofs.YtojfblkmhdgjeaaDoor
