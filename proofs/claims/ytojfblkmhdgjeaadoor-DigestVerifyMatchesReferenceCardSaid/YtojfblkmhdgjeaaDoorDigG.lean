/- The digests of an entry, of two parts and of a record; where a tree is split. -/
import Derived.Test.YtojfblkmhdgjeaaDoorDigF
import Derived.Test.YtojfblkmhdgjeaaDoorShelf
namespace Go.Proofs.YtojfblkmhdgjeaaDoor
open Go.RowKit Go.Shelf

abbrev strV (s : ByteArray) : Value := .string s
def catS (a b : ByteArray) : ByteArray := ⟨(a.data.toList ++ b.data.toList).toArray⟩
def leafS (s : ByteArray) : ByteArray := sumS (catS ⟨#[0]⟩ s)
def nodeS (a b : ByteArray) : ByteArray := sumS (catS (catS ⟨#[1]⟩ a) b)
def chainS (a b : ByteArray) : ByteArray := sumS (catS (catS ⟨#[2]⟩ a) b)
theorem catS_size (a b : ByteArray) : (catS a b).size = a.size + b.size := by
  show ((a.data.toList ++ b.data.toList).toArray).size = a.data.size + b.data.size
  simp
theorem leafS_size (s : ByteArray) : (leafS s).size = 32 := sumS_size _
theorem nodeS_size (a b : ByteArray) : (nodeS a b).size = 32 := sumS_size _
theorem chainS_size (a b : ByteArray) : (chainS a b).size = 32 := sumS_size _
theorem join_two (a b : ByteArray) : (⟨(Lib.join ([a, b].map (·.data.toList)) (⟨#[]⟩ : ByteArray).data.toList).toArray⟩ : ByteArray) = catS a b := by
  simp [catS, Lib.join_cons, Lib.joinTail]
theorem join_three (a b c : ByteArray) : (⟨(Lib.join ([a, b, c].map (·.data.toList)) (⟨#[]⟩ : ByteArray).data.toList).toArray⟩ : ByteArray) = catS (catS a b) c := by
  simp [catS, Lib.join_cons, Lib.joinTail]
theorem join_len {L : List UInt8} {s : ByteArray} (h : (⟨L.toArray⟩ : ByteArray) = s) : L.length = s.size := by
  subst h
  show L.length = L.toArray.size
  simp
theorem Row.str {w : World} {b : Nat} {t : TypeId} {xs : List ByteArray} (h : Row w b t (xs.map strV)) : ∀ (j : Nat) x, xs[j]? = some x → w.cell? ⟨b, 0 + j, none⟩ = some (.string x) := by
  intro j x hx
  rw [Nat.zero_add, h.cell, List.getElem?_map, hx]
  rfl

set_option maxHeartbeats 400000 in
theorem sum_two (b : Nat) (t : TypeId) (x y : ByteArray) (w : World) (T : Tab w) (hR : Row w b t [.string x, .string y]) (hs : x.size + y.size ≤ 2 ^ 40) :
    Calls Tryd.prog 46 #[.slice (some ⟨b, 0, none⟩) 2 2] w fun e w' => e = .returned (.string (sumS (catS x y))) ∧ Below w.heap.size w w' := by
  have e2 := join_two x y
  have JC := Lib.hid (Tryd.strings_Join b 0 2 [x, y] ⟨#[]⟩ w (hR.str (xs := [x, y])) hR.lt (by simp) (by simp) (by rw [join_len e2, catS_size]; omega))
  rw [e2] at JC
  have HT := Lib.hid T
  have hz := catS_size x y
  have CS := Lib.hid (fun w' (T' : Tab w') => Sum_any (catS x y) w' T' (by omega))
  clear hR e2 hz T
  generalize catS x y = z at *
  go_enter Tryd.func46, Tryd.ntmps46
  go_wp2_with fail
  refine JC.out.mono ?_
  rintro e w2 ⟨rfl, hb⟩
  have HB := Lib.hid hb
  have HT2 := Lib.hid (HT.out.next hb)
  clear hb JC
  go_wp2_with fail
  refine (CS.out _ HT2.out).mono ?_
  rintro e w3 ⟨rfl, hb⟩
  have HB2 := Lib.hid (Below.andThen HB.out hb)
  clear hb
  go_wp2
  go_ret
  exact ⟨rfl, HB2.out⟩
set_option maxHeartbeats 400000 in
theorem sum_three (b : Nat) (t : TypeId) (x y v : ByteArray) (w : World) (T : Tab w) (hR : Row w b t [.string x, .string y, .string v]) (hs : x.size + y.size + v.size ≤ 2 ^ 40) :
    Calls Tryd.prog 46 #[.slice (some ⟨b, 0, none⟩) 3 3] w fun e w' => e = .returned (.string (sumS (catS (catS x y) v))) ∧ Below w.heap.size w w' := by
  have e2 := join_three x y v
  have JC := Lib.hid (Tryd.strings_Join b 0 3 [x, y, v] ⟨#[]⟩ w (hR.str (xs := [x, y, v])) hR.lt (by simp) (by simp) (by rw [join_len e2, catS_size, catS_size]; omega))
  rw [e2] at JC
  have HT := Lib.hid T
  have hz := catS_size (catS x y) v
  rw [catS_size x y] at hz
  have CS := Lib.hid (fun w' (T' : Tab w') => Sum_any (catS (catS x y) v) w' T' (by omega))
  clear hR e2 hz T
  generalize catS (catS x y) v = z at *
  go_enter Tryd.func46, Tryd.ntmps46
  go_wp2_with fail
  refine JC.out.mono ?_
  rintro e w2 ⟨rfl, hb⟩
  have HB := Lib.hid hb
  have HT2 := Lib.hid (HT.out.next hb)
  clear hb JC
  go_wp2_with fail
  refine (CS.out _ HT2.out).mono ?_
  rintro e w3 ⟨rfl, hb⟩
  have HB2 := Lib.hid (Below.andThen HB.out hb)
  clear hb
  go_wp2
  go_ret
  exact ⟨rfl, HB2.out⟩

set_option maxHeartbeats 400000 in
theorem Leaf_any (s : ByteArray) (w : World) (T : Tab w) (hs : s.size ≤ 2 ^ 39) :
    Calls Tryd.prog 15 #[.string s] w fun e w' => e = .returned (.string (leafS s)) ∧ Below w.heap.size w w' := by
  have HT := Lib.hid (fun o => T.next ((Below.refl _ w).alloc (Nat.le_refl _) o))
  have h1 : (⟨#[0]⟩ : ByteArray).size = 1 := rfl
  have CS := Lib.hid (fun b t w' (T' : Tab w') (hR : Row w' b t [.string ⟨#[0]⟩, .string s]) => sum_two b t ⟨#[0]⟩ s w' T' hR (by omega))
  clear T h1
  go_enter Tryd.func15, Tryd.ntmps15
  go_wp2_with fail
  refine (CS.out _ _ _ (HT.out _) (Row.new _ _ _)).mono ?_
  rintro e w3 ⟨rfl, hb⟩
  have HB2 := Lib.hid (Below.andThen ((Below.refl _ w).alloc (Nat.le_refl _) _) hb)
  clear hb
  go_wp2
  go_ret
  exact ⟨rfl, HB2.out⟩
set_option maxHeartbeats 400000 in
theorem Node_any (a b : ByteArray) (w : World) (T : Tab w) (hs : a.size + b.size ≤ 2 ^ 39) :
    Calls Tryd.prog 17 #[.string a, .string b] w fun e w' => e = .returned (.string (nodeS a b)) ∧ Below w.heap.size w w' := by
  have HT := Lib.hid (fun o => T.next ((Below.refl _ w).alloc (Nat.le_refl _) o))
  have h1 : (⟨#[1]⟩ : ByteArray).size = 1 := rfl
  have CS := Lib.hid (fun c t w' (T' : Tab w') (hR : Row w' c t [.string ⟨#[1]⟩, .string a, .string b]) => sum_three c t ⟨#[1]⟩ a b w' T' hR (by omega))
  clear T h1
  go_enter Tryd.func17, Tryd.ntmps17
  go_wp2_with fail
  refine (CS.out _ _ _ (HT.out _) (Row.new _ _ _)).mono ?_
  rintro e w3 ⟨rfl, hb⟩
  have HB2 := Lib.hid (Below.andThen ((Below.refl _ w).alloc (Nat.le_refl _) _) hb)
  clear hb
  go_wp2
  go_ret
  exact ⟨rfl, HB2.out⟩
set_option maxHeartbeats 400000 in
theorem Chain_any (a b : ByteArray) (w : World) (T : Tab w) (hs : a.size + b.size ≤ 2 ^ 39) :
    Calls Tryd.prog 19 #[.string a, .string b] w fun e w' => e = .returned (.string (chainS a b)) ∧ Below w.heap.size w w' := by
  have HT := Lib.hid (fun o => T.next ((Below.refl _ w).alloc (Nat.le_refl _) o))
  have h1 : (⟨#[2]⟩ : ByteArray).size = 1 := rfl
  have CS := Lib.hid (fun c t w' (T' : Tab w') (hR : Row w' c t [.string ⟨#[2]⟩, .string a, .string b]) => sum_three c t ⟨#[2]⟩ a b w' T' hR (by omega))
  clear T h1
  go_enter Tryd.func19, Tryd.ntmps19
  go_wp2_with fail
  refine (CS.out _ _ _ (HT.out _) (Row.new _ _ _)).mono ?_
  rintro e w3 ⟨rfl, hb⟩
  have HB2 := Lib.hid (Below.andThen ((Below.refl _ w).alloc (Nat.le_refl _) _) hb)
  clear hb
  go_wp2
  go_ret
  exact ⟨rfl, HB2.out⟩

/-! ### where a tree is split -/
def splitN (n : Nat) : Nat := 2 ^ Nat.log2 (n - 1)
theorem splitN_lt {n : Nat} (h : 2 ≤ n) : splitN n < n := by
  have := Nat.log2_self_le (n := n - 1) (by omega)
  unfold splitN
  omega
theorem splitN_pos (n : Nat) : 1 ≤ splitN n := Nat.one_le_two_pow
theorem splitN_le {n : Nat} (h : 2 ≤ n) : n ≤ 2 * splitN n := by
  have := Nat.lt_log2_self (n := n - 1)
  unfold splitN
  rw [Nat.pow_succ] at this
  omega
theorem splitN_is {n j : Nat} (h1 : 2 ^ j < n) (h2 : n ≤ 2 ^ (j + 1)) : splitN n = 2 ^ j := by
  unfold splitN
  have h0 : n - 1 ≠ 0 := by have := Nat.one_le_two_pow (n := j); omega
  have a := Nat.log2_self_le h0
  have b := Nat.lt_log2_self (n := n - 1)
  congr 1
  rcases Nat.lt_trichotomy (Nat.log2 (n - 1)) j with h | h | h
  · have := Nat.pow_le_pow_right (n := 2) (by decide) (show (n - 1).log2 + 1 ≤ j by omega)
    omega
  · exact h
  · have := Nat.pow_le_pow_right (n := 2) (by decide) (show j + 1 ≤ (n - 1).log2 by omega)
    omega
theorem bitLen_log2 (x : Nat) (h0 : x ≠ 0) (h : x < 2 ^ 64) : Lib.bitLen x = Nat.log2 x + 1 := by
  have a := Nat.log2_self_le h0
  have b := Nat.lt_log2_self (n := x)
  rw [Lib.bitLen_shift (Nat.log2 x) x a h]
  have e : x / 2 ^ x.log2 = 1 := by
    rw [Nat.pow_succ] at b
    apply Nat.div_eq_of_lt_le <;> omega
  rw [e]
  rfl
set_option maxHeartbeats 400000 in
theorem split_any (n : Nat) (w : World) (h2 : 2 ≤ n) (hn : n ≤ 9223372036854775807) :
    Calls Tryd.prog 47 #[.int .i64 n] w fun e w' => e = .returned (.int .i64 (splitN n)) ∧ w = w' := by
  have CL := Lib.hid (fun w => Tryd.bits_Len ((n - 1 : Nat) : Int) w (by omega) (by omega))
  have e1 : Lib.bitLen ((n - 1 : Nat) : Int).toNat = Nat.log2 (n - 1) + 1 := by
    rw [Int.toNat_natCast]
    exact bitLen_log2 _ (by omega) (by omega)
  rw [e1] at CL
  have e2 : (n : Int) - 1 = ((n - 1 : Nat) : Int) := by omega
  have hl : Nat.log2 (n - 1) < 63 := (Nat.log2_lt (by omega)).2 (by omega)
  clear e1
  go_enter Tryd.func47, Tryd.ntmps47
  go_wp2_with fail
  refine (CL.out _).mono ?_
  rintro e w' ⟨rfl, rfl⟩
  clear CL
  have hp : 2 ^ (n - 1).log2 < 2 ^ 63 := Nat.pow_lt_pow_right (by decide) hl
  have HE := Lib.hid (show wrap64 (2 ^ (n - 1).log2) = ((splitN n : Nat) : Int) by
    have e : (2 : Int) ^ (n - 1).log2 = ((2 ^ (n - 1).log2 : Nat) : Int) := by simp
    rw [e]
    unfold splitN
    generalize 2 ^ (n - 1).log2 = q at *
    unfold wrap64
    omega)
  clear hp
  go_wp2_with fail
  go_ret
  exact ⟨retv (vint HE.out), rfl⟩
set_option maxHeartbeats 400000 in
theorem join_any (l : Bool) (a x : ByteArray) (w : World) (T : Tab w) (hs : a.size + x.size ≤ 2 ^ 39) :
    Calls Tryd.prog 54 #[.bool l, .string a, .string x] w fun e w' => e = .returned (.string (if l then nodeS a x else nodeS x a)) ∧ Below w.heap.size w w' := by
  have C1 := Lib.hid (Node_any a x w T hs)
  have C2 := Lib.hid (Node_any x a w T (by omega))
  clear T
  cases l
  · go_enter Tryd.func54, Tryd.ntmps54
    go_wp2_with fail
    refine C2.out.mono ?_
    rintro e w3 ⟨rfl, hb⟩
    have HB2 := Lib.hid hb
    clear hb
    go_wp2
    go_ret
    exact ⟨rfl, HB2.out⟩
  · go_enter Tryd.func54, Tryd.ntmps54
    go_wp2_with fail
    refine C1.out.mono ?_
    rintro e w3 ⟨rfl, hb⟩
    have HB2 := Lib.hid hb
    clear hb
    go_wp2
    go_ret
    exact ⟨rfl, HB2.out⟩
/-! ### the root of a tree -/
def rootF : Nat → List ByteArray → ByteArray
  | 0, _ => sumS ⟨#[]⟩
  | f + 1, xs => match xs with
    | [] => sumS ⟨#[]⟩
    | [x] => leafS x
    | _ => nodeS (rootF f (xs.take (splitN xs.length))) (rootF f (xs.drop (splitN xs.length)))
def rootS (xs : List ByteArray) : ByteArray := rootF xs.length xs
theorem rootF_fuel : ∀ (f g : Nat) (xs : List ByteArray), xs.length ≤ f → xs.length ≤ g → rootF f xs = rootF g xs
  | 0, g, xs, hf, _ => by
    obtain rfl : xs = [] := List.eq_nil_of_length_eq_zero (by omega)
    cases g <;> rfl
  | f + 1, 0, xs, _, hg => by
    obtain rfl : xs = [] := List.eq_nil_of_length_eq_zero (by omega)
    rfl
  | f + 1, g + 1, xs, hf, hg => by
    match xs with
    | [] => rfl
    | [x] => rfl
    | x :: y :: r =>
      have h2 : 2 ≤ (x :: y :: r).length := by simp
      have h1 := splitN_lt h2
      have h0 := splitN_pos (x :: y :: r).length
      show nodeS (rootF f _) (rootF f _) = nodeS (rootF g _) (rootF g _)
      rw [rootF_fuel f g _ (by rw [List.length_take]; omega) (by rw [List.length_take]; omega), rootF_fuel f g _ (by rw [List.length_drop]; omega) (by rw [List.length_drop]; omega)]
theorem rootS_nil : rootS [] = sumS ⟨#[]⟩ := rfl
theorem rootS_one (x : ByteArray) : rootS [x] = leafS x := rfl
theorem rootS_split {xs : List ByteArray} (h : 2 ≤ xs.length) : rootS xs = nodeS (rootS (xs.take (splitN xs.length))) (rootS (xs.drop (splitN xs.length))) := by
  match xs, h with
  | x :: y :: r, h =>
    have h1 := splitN_lt h
    have h0 := splitN_pos (x :: y :: r).length
    show nodeS (rootF _ _) (rootF _ _) = nodeS (rootF _ _) (rootF _ _)
    congr 1
    · exact rootF_fuel _ _ _ (by rw [List.length_take]; simp at h1 ⊢; omega) (Nat.le_refl _)
    · exact rootF_fuel _ _ _ (by rw [List.length_drop]; simp at h1 h0 ⊢; omega) (Nat.le_refl _)
theorem rootS_size (xs : List ByteArray) : (rootS xs).size = 32 := by
  match xs with
  | [] => exact sumS_size _
  | [x] => exact leafS_size _
  | x :: y :: r => rw [rootS_split (by simp)]; exact nodeS_size _ _

/-- a slice of strings -/
def StrSl (w : World) (o : Option Addr) (xs : List ByteArray) : Prop := xs = [] ∨ ∃ b off, o = some ⟨b, off, none⟩ ∧ b < w.heap.size ∧ ∀ j x, xs[j]? = some x → w.cell? ⟨b, off + j, none⟩ = some (.string x)
theorem StrSl.next {w w' : World} {o : Option Addr} {xs : List ByteArray} (h : StrSl w o xs) (hb : Below w.heap.size w w') : StrSl w' o xs := by
  rcases h with h | ⟨b, off, rfl, hl, hc⟩
  · exact .inl h
  · exact .inr ⟨b, off, rfl, Nat.lt_of_lt_of_le hl hb.size, fun j x hx => (hb.cell (p := ⟨b, off + j, none⟩) hl).trans (hc j x hx)⟩

set_option maxRecDepth 100000 in
set_option maxHeartbeats 1000000 in
theorem Root_any : ∀ (N : Nat) (xs : List ByteArray) (o : Option Addr) (c : Nat) (w : World), xs.length = N → Tab w → StrSl w o xs → N ≤ c → c ≤ 9223372036854775807 → (∀ x ∈ xs, x.size ≤ 2 ^ 38) →
    Calls Tryd.prog 27 #[.slice o N c] w fun e w' => e = .returned (.string (rootS xs)) ∧ Below w.heap.size w w' := by
  intro N
  induction N using Nat.strongRecOn with
  | ind N ih =>
    intro xs o c w hN T hS hNc hc hx
    have HT := Lib.hid T
    match xs, hN with
    | [], hN =>
      obtain rfl : N = 0 := hN.symm
      have CS := Lib.hid (Sum_any ⟨#[]⟩ w T (by decide))
      clear ih T hS hx
      go_enter Tryd.func27, Tryd.ntmps27
      go_wp2_with fail
      refine CS.out.mono ?_
      rintro e w3 ⟨rfl, hb⟩
      have HB2 := Lib.hid hb
      clear hb
      go_wp2
      go_ret
      exact ⟨rfl, HB2.out⟩
    | [x], hN =>
      obtain rfl : N = 1 := hN.symm
      rcases hS with h | ⟨b, off, rfl, hl, hcell⟩
      · cases h
      have hc0 := hcell 0 x rfl
      rw [Nat.add_zero] at hc0
      have CS := Lib.hid (Leaf_any x w T (by have := hx x (by simp); omega))
      clear ih T hx hcell
      go_enter Tryd.func27, Tryd.ntmps27
      go_wp2_with fail
      refine CS.out.mono ?_
      rintro e w3 ⟨rfl, hb⟩
      have HB2 := Lib.hid hb
      clear hb
      go_wp2
      go_ret
      exact ⟨rfl, HB2.out⟩
    | x :: y :: r, hN =>
      have h2 : 2 ≤ (x :: y :: r).length := by simp
      generalize x :: y :: r = xs at *
      rcases hS with h | ⟨b, off, rfl, hl, hcell⟩
      · rw [h] at h2; simp at h2
      subst hN
      have h1 := splitN_lt h2
      have h0 := splitN_pos xs.length
      have CP := Lib.hid (fun w => split_any xs.length w h2 (by omega))
      have C1 := Lib.hid (fun (k : Kin w) => ih (splitN xs.length) h1 (xs.take (splitN xs.length)) (some ⟨b, off, none⟩) c k.it (by rw [List.length_take]; omega) (T.next k.below)
        (.inr ⟨b, off, rfl, Nat.lt_of_lt_of_le hl k.below.size, fun j x hx => (k.below.cell (p := ⟨b, off + j, none⟩) hl).trans (hcell j x (by rw [List.getElem?_take] at hx; split at hx <;> simp_all))⟩) (by omega) hc (fun x h => hx x (List.mem_of_mem_take h)))
      have C2 := Lib.hid (fun (k : Kin w) => ih (xs.length - splitN xs.length) (by omega) (xs.drop (splitN xs.length)) (some ⟨b, off + splitN xs.length, none⟩) (c - splitN xs.length) k.it (by rw [List.length_drop]) (T.next k.below)
        (.inr ⟨b, off + splitN xs.length, rfl, Nat.lt_of_lt_of_le hl k.below.size, fun j x hx => (k.below.cell (p := ⟨b, _, none⟩) hl).trans (by rw [List.getElem?_drop] at hx; rw [Nat.add_assoc]; exact hcell _ x hx)⟩) (by omega) (by omega) (fun x h => hx x (List.mem_of_mem_drop h)))
      have z1 := rootS_size (xs.take (splitN xs.length))
      have z2 := rootS_size (xs.drop (splitN xs.length))
      have CN := Lib.hid (fun (k : Kin w) => Node_any (rootS (xs.take (splitN xs.length))) (rootS (xs.drop (splitN xs.length))) k.it (T.next k.below) (by omega))
      rw [← rootS_split h2] at CN
      generalize rootS (xs.take (splitN xs.length)) = r1 at *
      generalize rootS (xs.drop (splitN xs.length)) = r2 at *
      generalize rootS xs = rr at *
      generalize hK : splitN xs.length = K at *
      generalize xs.length = N at *
      clear z1 z2 hx ih T hcell hK
      have d0 : decide ((N : Int) = 0) = false := by simp; omega
      have d1 : decide ((N : Int) = 1) = false := by simp; omega
      go_enter Tryd.func27, Tryd.ntmps27
      go_wp2_with fail
      refine (CP.out _).mono ?_
      rintro e w' ⟨rfl, rfl⟩
      clear CP
      go_wp2_with fail
      refine wp_region_kin (by kernel_rfl) (by kernel_rfl) w.heap.size 0 (by simp) (fun hk => ?_)
      repeat (go_big_quiet_step (first | (go_at_call 27; first | with_reducible exact Calls.kin (C1.out _) | with_reducible exact Calls.kin (C2.out _)) | (go_at_call 17; with_reducible exact Calls.kin (CN.out _))))
      refine wpQuiet_nil ?_
      clear hk
      intro w2 hb
      have HB2 := Lib.hid hb
      clear hb
      go_wp2
      go_ret
      exact ⟨rfl, HB2.out⟩
end Go.Proofs.YtojfblkmhdgjeaaDoor
